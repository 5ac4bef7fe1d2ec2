/- Texts of json and rpc, part 2: JGets, JRow, JRowC, RRowB, JMadT, JQuo, JKey, JObj, JTre, RPos, RPosR, JPar, JRpcE, JEfn, JEq, RRead0, RMk1. -/
import Derived.Test.YtbdpmpepmjpadaaGreatDoorLnP1
import Derived.Lib.AppendIntMem
import Derived.Test.YtbdpmpepmjpadaaGreatDoorRows
import Derived.ProofKit
import Derived.OpenShut
import Derived.ChangeOld
import Derived.SizedLaws
import Derived.HandedShaped
import Derived.Lay
import Derived.MakeChecks
import Derived.Lib.LaidU8
import Derived.Shelf.Vars
import Derived.Deep.Strs
import Derived.Lib.LaidTab
import Derived.Stop.LaidErr
import Derived.Deep.Slices
import Derived.Maps.Keyed
namespace Go.Proofs.YtbdpmpepmjpadaaGreatDoor
set_option linter.unusedVariables false
set_option linter.unusedSimpArgs false
set_option maxRecDepth 100000
open Go Go.RowKit Go.Shelf Go.Lib

theorem results_jv2 {fn : Func} {i k : Tmp} (h : fn.results = #[.cell i 27, .tmp k]) {tmps : Array Value} {W : World} {b : Nat} {x y z u : Value} {t : TypeId} {ev : Value} (hp : tmps.getD i undef = .pointer (some ⟨b, 0, none⟩)) (he : tmps.getD k undef = ev) (T : BoxC W b t #[x, y, z, u]) :
    (results fn tmps).run Tryz.prog W = .ok (.tuple #[.agg #[x, y, z, u], ev]) W := by
  have c0 : W.cell? ⟨b, 0, none⟩ = some x := T.cell 0
  have c1 : W.cell? ⟨b, 1, none⟩ = some y := T.cell 1
  have c2 : W.cell? ⟨b, 2, none⟩ = some z := T.cell 2
  have c3 : W.cell? ⟨b, 3, none⟩ = some u := T.cell 3
  have hp' : tmps[i]?.getD undef = .pointer (some ⟨b, 0, none⟩) := by simpa using hp
  have he' : tmps[k]?.getD undef = ev := by simpa using he
  simp [results, h, hp', he', go_sem, c0, c1, c2, c3]
/-- Where a string stands first in a row. -/
def fndK : List ByteArray → ByteArray → Option Nat
  | [], _ => none
  | a :: l, s => if a = s then some 0 else (fndK l s).map (· + 1)
theorem fnd_hit : ∀ {K : List ByteArray} {s : ByteArray} {j : Nat}, j < K.length → nthS K j = s → (∀ q, q < j → nthS K q ≠ s) → fndK K s = some j
  | [], _, j, h, _, _ => absurd h (by simp)
  | a :: l, s, 0, _, h, _ => by
    have h : a = s := by simpa [nthS] using h
    rw [fndK, if_pos h]
  | a :: l, s, j + 1, h1, h2, h3 => by
    have h0 : a ≠ s := by have := h3 0 (by omega); simpa [nthS] using this
    rw [fndK, if_neg h0, fnd_hit (K := l) (j := j) (by simpa using h1) (by simpa [nthS] using h2) (fun q hq => by have := h3 (q + 1) (by omega); simpa [nthS] using this)]
    rfl
theorem fnd_none : ∀ {K : List ByteArray} {s : ByteArray}, (∀ q, q < K.length → nthS K q ≠ s) → fndK K s = none
  | [], _, _ => rfl
  | a :: l, s, h => by
    have h0 : a ≠ s := by have := h 0 (by simp); simpa [nthS] using this
    rw [fndK, if_neg h0, fnd_none (K := l) (fun q hq => by have := h (q + 1) (by simpa using hq); simpa [nthS] using this)]
    rfl
theorem fnd_lt : ∀ {K : List ByteArray} {s : ByteArray} {j : Nat}, fndK K s = some j → j < K.length
  | [], _, _, h => by simp [fndK] at h
  | a :: l, s, j, h => by
    rw [fndK] at h
    split at h
    · cases h; simp
    · obtain ⟨q, hq, rfl⟩ := Option.map_eq_some_iff.1 h
      have := fnd_lt hq
      simp; omega

/-- What Index answers. -/
def idxV (o : Option Nat) : Int := match o with | some j => (j : Int) | none => -1
def IdxR (K : List ByteArray) (s : ByteArray) (w : World) (e : Ending) (w' : World) : Prop := e = .returned (.int .i64 (idxV (fndK K s))) ∧ Below w.heap.size w w'
set_option maxHeartbeats 8000000 in
theorem idx_any {S : Nat → Prop} {u : Value} {K : List ByteArray} (s : ByteArray) (w : World) (h : StrsS w S u K) (hl : K.length ≤ 1000000) : Calls Tryz.prog 50 #[u, .string s] w (IdxR K s w) := by
  obtain ⟨ka, kc, rfl, hKc⟩ := h
  obtain ⟨kn, hkn⟩ : ∃ kn, K.length = kn := ⟨_, rfl⟩
  have HKC : Hid (∀ w2, Below w.heap.size w w2 → ∀ j, j < kn → ∃ b off, ka = some ⟨b, off, none⟩ ∧ w2.cell? ⟨b, off + j, none⟩ = some (.string (nthS K j))) := fun w2 h2 j hj => by
    obtain ⟨b, off, e, _, hx⟩ := hKc j (by omega)
    exact ⟨b, off, e, (h2.cell (p := ⟨b, off + j, none⟩) (block_lt hx)).trans hx⟩
  have HKN := hide hkn
  have HH : Hid (kn ≤ 1000000) := by show kn ≤ 1000000; omega
  rw [hkn]
  clear hKc hkn hl
  go_enter Tryz.func50, Tryz.ntmps50
  go_wp2
  go_loopw [8] (fun iv wr => ∃ j : Nat, j ≤ kn ∧ iv = .int .i64 (j : Int) ∧ Below w.heap.size w wr ∧ ∀ q, q < j → nthS K q ≠ s) (fun iv _ => kn - (RowKit.intOf iv).toNat)
  case atStart => exact ⟨0, Nat.zero_le _, rfl, Below.refl _ _, fun q h => by omega⟩
  case round =>
    obtain ⟨j, hj, rfl, hB, hQ⟩ := hrel
    have HQ := hide hQ
    have HB2 := hide hB
    clear hB hQ
    generalize wr = wo at *
    by_cases hlt : j < kn
    · obtain ⟨b, off, rfl, cx⟩ := HKC.out wo HB2.out j hlt
      obtain ⟨j1, hj1⟩ : ∃ j1, j + 1 = j1 := ⟨_, rfl⟩
      have e2 : (j : Int) + 1 = (j1 : Int) := by omega
      have g1 : (j1 : Int) ≤ 1000000000 := by have := HH.out; omega
      have d5 : (j : Int) < (kn : Int) := by omega
      have d0 : (0 : Int) ≤ (j : Int) := by omega
      have HI := hide (And.intro hlt hj1)
      obtain ⟨t, ht⟩ : ∃ t, nthS K j = t := ⟨_, rfl⟩
      rw [ht] at cx
      have HTJ := hide ht
      clear hlt hj1 hj ht
      by_cases htu : s = t
      · subst htu
        have HR := hide (fnd_hit (K := K) (s := s) (j := j) (by have := HI.out; have := HKN.out; omega) HTJ.out HQ.out)
        go_wp2
        go_ret
        refine ⟨?_, HB2.out⟩
        rw [HR.out]
        rfl
      · have dne : (s.toList == t.toList) = false := str_ne htu
        have HKK := hide htu
        clear htu
        go_wp2
        go_roundw
        case rel =>
          refine ⟨j1, by have := HI.out; omega, by first | rfl | go_num, HB2.out, fun q hq => ?_⟩
          rcases Nat.lt_or_ge q j with h | h
          · exact HQ.out q h
          · obtain rfl : q = j := by have := HI.out; omega
            rw [HTJ.out]
            exact fun e => HKK.out e.symm
        case measure => have := HI.out; simp [RowKit.intOf]; omega
    · obtain rfl : j = kn := by omega
      have d5 : ¬ (j : Int) < (j : Int) := by omega
      have HR := hide (fnd_none (K := K) (s := s) (fun q hq => HQ.out q (by have := HKN.out; omega)))
      clear hlt hj
      go_wp2
      go_ret
      refine ⟨?_, HB2.out⟩
      rw [HR.out]
      rfl

/-- What stands under a key. -/
def getJ (T : JT) (s : ByteArray) : Option JT := match T with
  | .mk k _ K L => if k = 6 ∧ K.length = L.length then (fndK K s).bind (fun j => L[j]?) else none
def zeroT : JT := .mk 0 ⟨#[]⟩ [] []
def zeroC : JC := (0, ⟨#[]⟩, .slice none 0 0, .slice none 0 0)
theorem zero_in (W : World) (S : Nat → Prop) : TIn W S zeroC zeroT := .mk 0 ⟨#[]⟩ (.slice none 0 0) none 0 [] [] (fun _ => zeroC) strs_nil (fun i hi => by simp at hi) (fun i hi => by simp at hi) (fun i hi => by simp at hi)
/-- What Get answers. -/
def GetR (o : Option JT) (w : World) (e : Ending) (w' : World) : Prop := ∃ y : JC, e = .returned (.tuple #[vagg y, .bool o.isSome]) ∧ Below w.heap.size w w' ∧ TIn w' (fun b => w.heap.size ≤ b) y ((o.map clJ).getD zeroT)

set_option maxHeartbeats 16000000 in
theorem get_any {S : Nat → Prop} {x : JC} {T : JT} (s : ByteArray) (w : World) (h : TIn w S x T) (hl : LtT T) : Calls Tryz.prog 24 #[vagg x, .string s] w (GetR (getJ T s) w) := by
  cases h with
  | mk k s0 kv la lc K L xs hK hc hsl ht =>
    obtain ⟨_, _, _, _, hKl, hLl, hsz, hll⟩ := hl
    obtain ⟨ka, kc, rfl, hKc⟩ := hK
    have hKS : StrsS w S (.slice ka K.length kc) K := ⟨ka, kc, rfl, hKc⟩
    unfold vagg
    simp only
    obtain ⟨kn, hkn⟩ : ∃ kn, K.length = kn := ⟨_, rfl⟩
    obtain ⟨n, hn⟩ : ∃ n, L.length = n := ⟨_, rfl⟩
    have HGJ : Hid (getJ (.mk k s0 K L) s = if k = 6 ∧ kn = n then (fndK K s).bind (fun j => L[j]?) else none) := by
      rw [Hid, ← hkn, ← hn]
      rfl
    rw [hkn] at hKS
    rw [hkn, hn]
    have hb : Below w.heap.size w ((w.alloc (.cells #[.int .i64 k, .string s0, .slice ka kn kc, .slice la n lc] 27)).alloc (.cells #[.int .i64 0, .string ⟨#[]⟩, .slice none 0 0, .slice none 0 0] 27)) := (bel w _).alloc (by simp) _
    have hp := (BoxC.new w 27 #[.int .i64 k, .string s0, .slice ka kn kc, .slice la n lc]).alloc (.cells #[.int .i64 0, .string ⟨#[]⟩, .slice none 0 0, .slice none 0 0] 27)
    have hq := BoxC.new (w.alloc (.cells #[.int .i64 k, .string s0, .slice ka kn kc, .slice la n lc] 27)) 27 #[.int .i64 0, .string ⟨#[]⟩, .slice none 0 0, .slice none 0 0]
    rw [World.size_alloc] at hq
    generalize hw0 : (w.alloc (.cells #[.int .i64 k, .string s0, .slice ka kn kc, .slice la n lc] 27)).alloc (.cells #[.int .i64 0, .string ⟨#[]⟩, .slice none 0 0, .slice none 0 0] 27) = w0 at *
    have HIX := hide (fun W (hW : Below w0.heap.size w0 W) => idx_any s W (hKS.keep (W' := W) (S' := S) (fun b hs hlt => ⟨hs, (hb.trans (hW.mono hb.size)).block b hlt⟩)) (by omega))
    have HPC : Hid (∀ W, Below w0.heap.size w0 W → ∀ i, i < n → ∃ b off, la = some ⟨b, off, none⟩ ∧ ∀ r, r < 4 → W.cell? ⟨b, off + (i * 4 + r), none⟩ = (vcell (xs i))[r]?) := fun W hW i hi => by
      obtain ⟨b, off, e, _, hx⟩ := hc i (by omega)
      refine ⟨b, off, e, fun r hr => ?_⟩
      have h0 := hx 0 (by omega)
      simp only [vcell, List.getElem?_cons_zero] at h0
      exact ((hb.trans (hW.mono hb.size)).cell (p := ⟨b, off + (i * 4 + r), none⟩) (block_lt h0)).trans (hx r hr)
    have HKC : Hid (∀ W, Below w0.heap.size w0 W → ∀ j, j < kn → ∃ b off, ka = some ⟨b, off, none⟩ ∧ W.cell? ⟨b, off + j, none⟩ = some (.string (nthS K j))) := fun W hW j hj => by
      obtain ⟨b, off, e, _, hx⟩ := hKc j (by omega)
      exact ⟨b, off, e, ((hb.trans (hW.mono hb.size)).cell (p := ⟨b, off + j, none⟩) (block_lt hx)).trans hx⟩
    have HPT : Hid (∀ i, i < n → ∃ Ti, L[i]? = some Ti ∧ TIn w S (xs i) Ti ∧ LtT Ti ∧ IsSl (xs i).2.2.1 ∧ IsSl (xs i).2.2.2) := fun i hi => ⟨L[i]'(by omega), List.getElem?_eq_getElem _, ht i (by omega), hll i (by omega), (hsl i (by omega)).1, (hsl i (by omega)).2⟩
    have p0 : w0.cell? ⟨w.heap.size, 0, none⟩ = some (.int .i64 k) := hp.cell 0
    have p1 : w0.cell? ⟨w.heap.size, 1, none⟩ = some (.string s0) := hp.cell 1
    have p2 : w0.cell? ⟨w.heap.size, 2, none⟩ = some (.slice ka kn kc) := hp.cell 2
    have p3 : w0.cell? ⟨w.heap.size, 3, none⟩ = some (.slice la n lc) := hp.cell 3
    have z0 := hq.cell 0
    have z1 := hq.cell 1
    have z2 := hq.cell 2
    have z3 := hq.cell 3
    simp only [List.getElem?_toArray, List.getElem?_cons_zero, List.getElem?_cons_succ] at z0 z1 z2 z3
    have y0 := hq.frozen 0
    have y1 := hq.frozen 1
    have y2 := hq.frozen 2
    have y3 := hq.frozen 3
    have lX := hq.lt
    have HKN : Hid (kn ≤ 1000000) := by show kn ≤ 1000000; omega
    have HKL := hide hkn
    have HW0 := hide hw0
    have HP := hide hp
    have HQ := hide hq
    have HB := hide hb
    clear hw0 hp hq hb hKc hc hsl ht hKS hKl hLl hsz hll hkn hn
    by_cases h6 : k = 6
    rotate_left
    · have d6 : (k == 6) = false := by simpa using h6
      have d6' : (k != 6) = true := by simpa using h6
      have HR : Hid (getJ (.mk k s0 K L) s = none) := by rw [Hid, HGJ.out]; exact if_neg (fun h => h6 h.1)
      clear h6
      go_enter Tryz.func24, Tryz.ntmps24
      go_upto_region 1 with fail
      rw [HW0.out]
      clear HW0
      go_wp2
      refine bodyPost_ret (results_jv2 rfl rfl rfl (resJ_v HQ.out (.int .i64 0) (.string ⟨#[]⟩) (.slice none 0 0) (.slice none 0 0))) rfl ?_
      rw [HR.out]
      exact ⟨zeroC, rfl, below4 HB.out (Nat.le_succ _) _ _ _ _, zero_in _ _⟩
    subst h6
    by_cases hkn : kn = n
    rotate_left
    · have d7 : ((kn : Int) != (n : Int)) = true := by simp; omega
      have HR : Hid (getJ (.mk 6 s0 K L) s = none) := by rw [Hid, HGJ.out]; exact if_neg (fun h => hkn h.2)
      clear hkn
      go_enter Tryz.func24, Tryz.ntmps24
      go_upto_region 1 with fail
      rw [HW0.out]
      clear HW0
      go_wp2
      refine bodyPost_ret (results_jv2 rfl rfl rfl (resJ_v HQ.out (.int .i64 0) (.string ⟨#[]⟩) (.slice none 0 0) (.slice none 0 0))) rfl ?_
      rw [HR.out]
      exact ⟨zeroC, rfl, below4 HB.out (Nat.le_succ _) _ _ _ _, zero_in _ _⟩
    subst hkn
    have d7 : ((kn : Int) != (kn : Int)) = false := by simp
    have HGF : Hid (getJ (.mk 6 s0 K L) s = (fndK K s).bind (fun j => L[j]?)) := by rw [Hid, HGJ.out]; exact if_pos ⟨rfl, rfl⟩
    clear HGJ
    cases hf : fndK K s with
    | none =>
      have HIX0 := hide (HIX.out w0 (Below.refl _ _))
      have HR : Hid (getJ (.mk 6 s0 K L) s = none) := by rw [Hid, HGF.out, hf]; rfl
      have HF := hide hf
      clear hf HIX
      go_enter Tryz.func24, Tryz.ntmps24
      go_upto_region 1 with fail
      rw [HW0.out]
      clear HW0
      go_wp2_with fail
      refine HIX0.out.mono ?_
      rintro e w1 ⟨rfl, hb1⟩
      rw [HF.out]
      simp only [idxV]
      have HB1 := hide (HB.out.trans (hb1.mono HB.out.size))
      have hq1 := HQ.out.below hb1
      have HQ1 := hide hq1
      clear z0 z1 z2 z3 y0 y1 y2 y3 lX p0 p1 p2 p3 hb1
      have z0 := hq1.cell 0
      have z1 := hq1.cell 1
      have z2 := hq1.cell 2
      have z3 := hq1.cell 3
      simp only [List.getElem?_toArray, List.getElem?_cons_zero, List.getElem?_cons_succ] at z0 z1 z2 z3
      have y0 := hq1.frozen 0
      have y1 := hq1.frozen 1
      have y2 := hq1.frozen 2
      have y3 := hq1.frozen 3
      have lX := hq1.lt
      clear hq1
      go_wp2
      refine bodyPost_ret (results_jv2 rfl rfl rfl (resJ_v HQ1.out (.int .i64 0) (.string ⟨#[]⟩) (.slice none 0 0) (.slice none 0 0))) rfl ?_
      rw [HR.out]
      exact ⟨zeroC, rfl, below4 HB1.out (Nat.le_succ _) _ _ _ _, zero_in _ _⟩
    | some j =>
      have HIX0 := hide (HIX.out w0 (Below.refl _ _))
      have hjl : j < kn := by have := fnd_lt hf; have := HKL.out; omega
      obtain ⟨Tj, hTj, hin, hlt, hs2, hs3⟩ := HPT.out j hjl
      have HR : Hid (getJ (.mk 6 s0 K L) s = some Tj) := by rw [Hid, HGF.out, hf]; exact hTj
      have HF := hide hf
      have HCL := hide (fun W (hW : Below w0.heap.size w0 W) => clone_any hin hlt W (HB.out.trans (hW.mono HB.out.size)))
      have hpc := fun W hW => HPC.out W hW j hjl
      generalize xs j = y at *
      obtain ⟨yk, ys', yK, yL⟩ := y
      simp only [vagg, vcell] at hpc hs2 hs3 HCL
      obtain ⟨ka', kl', kc', rfl⟩ := hs2
      obtain ⟨la', ll', lc', rfl⟩ := hs3
      have HPJ := hide hpc
      have HJL := hide hjl
      have d8 : (j : Int) < (kn : Int) := by omega
      have d9 : ¬ (j : Int) < 0 := by omega
      have d10 : (0 : Int) ≤ (j : Int) := by omega
      clear hf HIX hTj hin hlt hpc hjl
      go_enter Tryz.func24, Tryz.ntmps24
      go_upto_region 1 with fail
      rw [HW0.out]
      clear HW0
      go_wp2_with fail
      refine HIX0.out.mono ?_
      rintro e w1 ⟨rfl, hb1⟩
      rw [HF.out]
      simp only [idxV]
      have HB1 := hide (HB.out.trans (hb1.mono HB.out.size))
      have HBI := hide hb1
      have HP1 := hide (HP.out.below hb1)
      have HQ1 := hide (HQ.out.below hb1)
      clear z0 z1 z2 z3 y0 y1 y2 y3 lX p0 p1 p2 p3 hb1
      have p3 : w1.cell? ⟨w.heap.size, 3, none⟩ = some (.slice la kn lc) := HP1.out.cell 3
      obtain ⟨b, off, rfl, hx⟩ := HPJ.out w1 HBI.out
      have x0 := hx 0 (by omega)
      have x1 := hx 1 (by omega)
      have x2 := hx 2 (by omega)
      have x3 := hx 3 (by omega)
      simp only [List.getElem?_cons_zero, List.getElem?_cons_succ, ← Nat.add_assoc, Nat.add_zero] at x0 x1 x2 x3
      clear hx
      go_wp2_with fail
      refine (HCL.out w1 HBI.out).mono ?_
      rintro e w2 ⟨y', rfl, hb2, hT2⟩
      obtain ⟨yk2, ys2, yK2, yL2⟩ := y'
      obtain ⟨hs4, hs5⟩ := hT2.sl
      simp only at hs4 hs5
      obtain ⟨pa, pn, pc, rfl⟩ := hs4
      obtain ⟨qa, qn, qc, rfl⟩ := hs5
      simp only [vagg]
      have HB2 := hide (HB1.out.trans (hb2.mono HB1.out.size))
      have hq2 := HQ1.out.below hb2
      have HQ2 := hide hq2
      have z0 := hq2.cell 0
      have z1 := hq2.cell 1
      have z2 := hq2.cell 2
      have z3 := hq2.cell 3
      simp only [List.getElem?_toArray, List.getElem?_cons_zero, List.getElem?_cons_succ] at z0 z1 z2 z3
      have y0 := hq2.frozen 0
      have y1 := hq2.frozen 1
      have y2 := hq2.frozen 2
      have y3 := hq2.frozen 3
      have lX := hq2.lt
      have HT2 := hide (hT2.keep (W' := (((w2.setCell ⟨w.heap.size + 1, 0, none⟩ (.int .i64 yk2)).setCell ⟨w.heap.size + 1, 1, none⟩ (.string ys2)).setCell ⟨w.heap.size + 1, 2, none⟩ (.slice pa pn pc)).setCell ⟨w.heap.size + 1, 3, none⟩ (.slice qa qn qc)) (S' := fun b => w.heap.size ≤ b) (fun b hs hlt => by
        have hs' : w1.heap.size ≤ b := hs
        have hlq := HQ1.out.lt
        refine ⟨by show w.heap.size ≤ b; omega, ?_⟩
        have hne : b ≠ w.heap.size + 1 := by omega
        rw [Below.heap_setCell _ ⟨w.heap.size + 1, 3, none⟩ _ b hne, Below.heap_setCell _ ⟨w.heap.size + 1, 2, none⟩ _ b hne, Below.heap_setCell _ ⟨w.heap.size + 1, 1, none⟩ _ b hne, Below.heap_setCell _ ⟨w.heap.size + 1, 0, none⟩ _ b hne]))
      clear hq2 hb2 hT2 x0 x1 x2 x3 p3
      go_wp2
      refine bodyPost_ret (results_jv2 rfl rfl rfl (resJ_v HQ2.out (.int .i64 yk2) (.string ys2) (.slice pa pn pc) (.slice qa qn qc))) rfl ?_
      rw [HR.out]
      exact ⟨(yk2, ys2, .slice pa pn pc, .slice qa qn qc), rfl, below4 HB2.out (Nat.le_succ _) _ _ _ _, HT2.out⟩

/-- The table of powers. -/
def Pow (w : World) : Prop := Lib.TabIs Tryz.prog w "internal/strconv.uint64pow10" .u64 Lib.pow10Tab
theorem Pow.lt {w : World} (h : Pow w) : 5 < w.heap.size := by
  unfold Pow Lib.TabIs World.var? at h
  have e : Tryz.prog.globalNamed "internal/strconv.uint64pow10" = some 5 := by kernel_rfl
  rw [e] at h
  simp only [Option.bind_some] at h
  rcases Nat.lt_or_ge 5 w.heap.size with q | q
  · exact q
  · rw [Array.getElem?_eq_none q] at h
    simp at h
theorem Pow.below {w w' : World} (h : Pow w) (hb : Below w.heap.size w w') : Pow w' := by
  have hg := h.lt
  unfold Pow Lib.TabIs World.var? at *
  have e : Tryz.prog.globalNamed "internal/strconv.uint64pow10" = some 5 := by kernel_rfl
  rw [e] at h ⊢
  simp only [Option.bind_some] at h ⊢
  rw [hb.block 5 hg]
  exact h

def OfNR (n : Int) (w : World) (e : Ending) (w' : World) : Prop := e = .returned (vagg (nC (strOf (itoaT n)))) ∧ Below w.heap.size w w'
end Go.Proofs.YtbdpmpepmjpadaaGreatDoor

namespace Go.Proofs.YtbdpmpepmjpadaaGreatDoor
set_option linter.unusedVariables false
set_option linter.unusedSimpArgs false
set_option maxRecDepth 100000
open Go Go.RowKit Go.Shelf Go.Lib Go.ChangeShapes Go.WideShapes

theorem own : ownKnob Tryz.prog.godebug = none := by kernel_rfl
theorem laidOut : laidOutB Tryz.prog = true := by kernel_rfl
theorem cellsU8 : Tryz.prog.cellsOf 5 = 1 := by kernel_rfl
theorem cellsInt : Tryz.prog.cellsOf 3 = 1 := by kernel_rfl
theorem cellsStr : Tryz.prog.cellsOf 9 = 1 := by kernel_rfl
theorem cellsFirst : Tryz.prog.cellsOf 169 = 256 := by kernel_rfl
theorem cellsRange : Tryz.prog.cellsOf 172 = 2 := by kernel_rfl
theorem globFirst : Tryz.prog.globalNamed "unicode/utf8.first" = some 0 := by kernel_rfl
theorem globAccept : Tryz.prog.globalNamed "unicode/utf8.acceptRanges" = some 1 := by kernel_rfl
theorem typeFirst : (Tryz.prog.globals[0]?).map (·.type) = some 169 := by kernel_rfl
theorem typeAccept : (Tryz.prog.globals[1]?).map (·.type) = some 173 := by kernel_rfl
theorem laidFirst : (Rows.laid_unicode_utf8_first : DataW Unit) = firstData := by kernel_rfl
theorem laidAccept : (Rows.laid_unicode_utf8_acceptRanges : DataW Unit) = acceptData := by kernel_rfl

theorem tabs_of_reads {W : World} (h3 : VarReads Tryz.prog W "unicode/utf8.first" firstData) (h4 : VarReads Tryz.prog W "unicode/utf8.acceptRanges" acceptData) : Utf8Tabs 0 1 W := by
  refine ⟨fun c hc => ?_, fun i hi => ?_⟩
  · obtain ⟨g, t, cs, fuel, p, hg, hty, hvar, hd⟩ := h3
    obtain rfl := Option.some.inj (globFirst.symm.trans hg)
    obtain rfl := Option.some.inj (typeFirst.symm.trans hty)
    have hcs := cells_of_tab Tryz.underlying169 Tryz.underlying5 cellsU8 cellsFirst hd
    rw [World.var?_cell hg hvar c, ← Array.getElem?_toList, hcs]
    simp [firstTab, hc]
  · obtain ⟨g, t, cs, fuel, p, hg, hty, hvar, hd⟩ := h4
    obtain rfl := Option.some.inj (globAccept.symm.trans hg)
    obtain rfl := Option.some.inj (typeAccept.symm.trans hty)
    obtain ⟨fuel', d, q, hdi, he⟩ := array_elem Tryz.underlying173 hd i hi
    simp only [List.getElem?_map, List.getElem?_range hi, Option.map_some, Option.some.injEq] at hdi
    subst hdi
    rw [cellsRange] at he
    have hcs := ints_of_struct Tryz.underlying172 (fun j f hj => by
      match j, hj with
      | 0, hj => simp at hj; subst hj; exact ⟨Tryz.underlying5, rfl, cellsU8⟩
      | 1, hj => simp at hj; subst hj; exact ⟨Tryz.underlying5, rfl, cellsU8⟩
      | j + 2, hj => simp at hj) (by rw [cellsRange]; rfl) he
    have e0 := congrArg (·[0]?) hcs
    have e1 := congrArg (·[1]?) hcs
    simp only [List.getElem?_take, List.getElem?_drop] at e0 e1
    constructor
    · rw [World.var?_cell hg hvar (2 * i), ← Array.getElem?_toList]
      simpa [Nat.mul_comm] using e0
    · rw [World.var?_cell hg hvar (2 * i + 1), ← Array.getElem?_toList]
      simpa [Nat.mul_comm] using e1

/-- A row's wrap that keeps both what is laid and the world's shape. -/
theorem handed_and_shaped {H : Type} {enc : TypeId × Value → H} {a : Assume} {C : Checked} {os : Os} {f : FuncId} {fn : Func} {s : ChangeSpec} {conds : List PathCond} {apart fresh handsOn again : Bool} {X : World → Array Value → Prop}
    (hX : ∀ (w w' : World) (args : Array Value), w.heap = w'.heap → X w args → X w' args)
    (own : ownKnob C.prog.godebug = none) (started : os.Started) (noInit : C.prog.inits.idxOf? f = none) (hfn : C.prog.funcs[f]? = some fn)
    (witness : ∃ (w : World) (tape : Tape) (i : Input), w.os = os ∧ (w.forCall tape i).Shaped C.prog ∧ i.vars = [] ∧ Input.okWide C.prog (w.forCall tape i) .any w.heap.size f i ∧
      ((s.pre enc C.prog fn conds apart (w.forCall tape i).memory i.args ∧ X (w.forCall tape i).memory i.args) ∧ sizedMet enc C.prog fn (OpenSpec.ofChange s) apart (w.forCall tape i).memory i.args) ∧ a.holds C.prog (lone (Frame.enter C.prog f i.args .normal) [] (w.forCall tape i)))
    (contract : ∀ (W : World) (base : Nat) (args : Array Value) (ds gs : List (DataW H)) (before : List MemPlace),
      (∀ (j : Nat) t v, fn.params[j]? = some t → args[j]? = some v → Value.okWide C.prog W .any base t v) →
      DataW.Whole enc C.prog fn.params.toList s.vars apart W args.toList ds gs before →
      conds.all (PathCond.test C.prog ⟨fn.params.toList, ds, s.plain.varTypes C.prog, gs⟩) = true →
      (DataW.weightsEach C.prog (fn.params.toList ++ s.plain.varTypes C.prog) (ds ++ gs)).all (· ≤ reachBytes) = true → X W args → W.ShapedOpen C.prog →
      a.holds C.prog (lone (Frame.enter C.prog f args .normal) [] W) →
      Calls C.prog f args W fun e W' => ∃ v, e = .returned v ∧ s.post enc C.prog fn apart fresh handsOn again W args v W') :
    ReturnsInHanded a C os f .any (fun w args => (s.pre enc C.prog fn conds apart w args ∧ X w args) ∧ sizedMet enc C.prog fn (OpenSpec.ofChange s) apart w args) (s.post enc C.prog fn apart fresh handsOn again) := by
  refine returnsInHanded_of_calls own started noInit witness ?_
  intro w tape i _ hsh _ hok hpre hholds
  obtain ⟨_, _, _, fn', hfn', _, _, _, _, hval⟩ := hok
  have e : fn' = fn := Option.some.inj (hfn'.symm.trans hfn)
  subst e
  obtain ⟨⟨⟨ds, gs, before, hw, hc⟩, hx⟩, hz⟩ := hpre
  have hw' := DataW.Whole.of_heap (w' := w.forCall tape i) (by rfl) hw
  refine (contract (w.forCall tape i) w.heap.size i.args ds gs before hval hw' hc (hz.weights hw) (hX _ _ _ (by rfl) hx) hsh hholds).mono fun e W' ⟨v, he, hp⟩ => ?_
  subst he
  exact ChangeSpec.post_blind hp

end Go.Proofs.YtbdpmpepmjpadaaGreatDoor

namespace Go.Proofs.YtbdpmpepmjpadaaGreatDoor
set_option linter.unusedVariables false
set_option linter.unusedSimpArgs false
set_option maxRecDepth 100000
open Go Go.RowKit Go.Shelf Go.Lib Go.ChangeShapes Go.WideShapes

theorem cellsU64 : Tryz.prog.cellsOf 164 = 1 := by kernel_rfl
theorem cellsPow : Tryz.prog.cellsOf 186 = 20 := by kernel_rfl
theorem globPow : Tryz.prog.globalNamed "internal/strconv.uint64pow10" = some 5 := by kernel_rfl
theorem typePow : (Tryz.prog.globals[5]?).map (·.type) = some 186 := by kernel_rfl
theorem globSyn : Tryz.prog.globalNamed "strconv.ErrSyntax" = some 3 := by kernel_rfl
theorem typeSyn : (Tryz.prog.globals[3]?).map (·.type) = some 128 := by kernel_rfl
theorem cellsErrE : Tryz.prog.cellsOf 196 = 1 := by kernel_rfl
theorem starErr : "*" ++ "errors.errorString" = "*errors.errorString" := by decide
theorem rowErr (u : TypeId) (h : Tryz.prog.typeName? 3 u = some "*errors.errorString") : u = 194 :=
  typeName_ptr_named (nm := "errors.errorString") (by rw [starErr]; kernel_rfl) (by kernel_rfl) (by decide) u (by rw [starErr]; exact h)

/-- What the row lists of the variables. -/
def laidC : List (String × DataW Unit) := [("math/bits.deBruijn32tab", Rows.laid_math_bits_deBruijn32tab), ("math/bits.deBruijn64tab", Rows.laid_math_bits_deBruijn64tab), ("internal/strconv.uint64pow10", Rows.laid_internal_strconv_uint64pow10), ("unicode/utf8.acceptRanges", Rows.laid_unicode_utf8_acceptRanges), ("strconv.ErrRange", Rows.laid_strconv_ErrRange), ("strconv.ErrSyntax", Rows.laid_strconv_ErrSyntax), ("unicode/utf8.first", Rows.laid_unicode_utf8_first)]
theorem laidPow : (Rows.laid_internal_strconv_uint64pow10 : DataW Unit) = tabData .u64 pow10Tab := by rfl
theorem tabs_inC {W : World} (hL : laidMetH Tryz.prog laidC W) : Utf8Tabs 0 1 W := by
  rw [MakeChecks.laidMetH_plain _ _ _ (by kernel_rfl)] at hL
  have h3 : VarReads Tryz.prog W "unicode/utf8.first" firstData := by rw [← laidFirst]; exact laidMet.reads (l := laidC) hL (by simp [laidC])
  have h4 : VarReads Tryz.prog W "unicode/utf8.acceptRanges" acceptData := by rw [← laidAccept]; exact laidMet.reads (l := laidC) hL (by simp [laidC])
  exact tabs_of_reads h3 h4
theorem pow_inC {W : World} (hL : laidMetH Tryz.prog laidC W) : Pow W := by
  rw [MakeChecks.laidMetH_plain _ _ _ (by kernel_rfl)] at hL
  have h3 : VarReads Tryz.prog W "internal/strconv.uint64pow10" (tabData .u64 pow10Tab) := by rw [← laidPow]; exact laidMet.reads (l := laidC) hL (by simp [laidC])
  obtain ⟨g, t, cs, fuel, p, hg, ht, hv, hd⟩ := h3
  obtain rfl := Option.some.inj (globPow.symm.trans hg)
  obtain rfl := Option.some.inj (typePow.symm.trans ht)
  unfold Pow TabIs
  rw [hv, ← cells_of_tab Tryz.underlying186 Tryz.underlying164 cellsU64 cellsPow hd]
theorem err_inC {W : World} (hL : laidMetH Tryz.prog laidC W) : ErrS W := by
  rw [MakeChecks.laidMetH_plain _ _ _ (by kernel_rfl)] at hL
  have h5 := laidMet.tail (laidMet.tail (laidMet.tail (laidMet.tail (laidMet.tail hL))))
  obtain ⟨a, s, hv, _⟩ := laid_sentinel h5 globSyn typeSyn Tryz.underlying128 rowErr Tryz.underlying194 Tryz.underlying196 rfl rfl Tryz.underlying9 cellsErrE cellsStr
  have h0 := World.var?_cell globSyn hv 0
  exact ⟨.iface 194 (.pointer (some a)), by simpa using h0, .inr ⟨_, _, rfl⟩⟩

end Go.Proofs.YtbdpmpepmjpadaaGreatDoor

namespace Go.Proofs.YtbdpmpepmjpadaaGreatDoor
set_option linter.unusedVariables false
set_option linter.unusedSimpArgs false
set_option maxRecDepth 100000
open Go Go.RowKit Go.Shelf Go.Lib Go.ChangeShapes Go.WideShapes Go.ChangeAt

theorem shape_lt {w : World} {r : Nat} {x : TypeId × Nat} (h : w.shape? r = some x) : r < w.heap.size := by
  unfold World.shape? at h
  split at h
  · rename_i hr
    exact (Array.getElem?_eq_some_iff.1 hr).1
  · cases h
end Go.Proofs.YtbdpmpepmjpadaaGreatDoor

namespace Go.Proofs.YtbdpmpepmjpadaaGreatDoor
set_option linter.unusedVariables false
set_option linter.unusedSimpArgs false
set_option maxRecDepth 100000
open Go Go.RowKit Go.Shelf Go.Lib

/-- A pair's cells: a key, and a value. -/
def pair5 (s : ByteArray) (x : JC) : List Value := [.string s, .int .i64 x.1, .string x.2.1, x.2.2.1, x.2.2.2]
/-- Pairs in memory: their keys, their values' trees. -/
def PairsT (w : World) (S : Nat → Prop) (pv : Value) (K : List ByteArray) (xs : Nat → JC) (L : List JT) : Prop :=
  ∃ ao cap, pv = .slice ao L.length cap ∧ K.length = L.length ∧ ∀ i, i < L.length → ∃ b off T, ao = some ⟨b, off, none⟩ ∧ (∀ r, r < 5 → w.cell? ⟨b, off + (i * 5 + r), none⟩ = (pair5 (nthS K i) (xs i))[r]?) ∧ L[i]? = some T ∧ TIn w S (xs i) T ∧ LtT T
/-- An object on its way, its values being trees. -/
structure MadT (w W : World) (kv lv : Value) (K : List ByteArray) (M : List JC) (L : List JT) : Prop where
  m : MadeJ w W kv lv K M
  ps : ∀ (q : Nat) (x : JC) (T : JT), M[q]? = some x → L[q]? = some T → TIn W (fun b => w.heap.size + 2 ≤ b ∧ lv.ownBlock ≠ some b ∧ kv.ownBlock ≠ some b) x T
theorem MadT.below {w W W' : World} {kv lv : Value} {K : List ByteArray} {M : List JC} {L : List JT} (h : MadT w W kv lv K M L) (hb : Below W.heap.size W W') : MadT w W' kv lv K M L := ⟨h.m.below hb, fun q x T hx hT => (h.ps q x T hx hT).bel hb⟩
theorem MadT.key {w W : World} {kv lv : Value} {K : List ByteArray} {M : List JC} {L : List JT} (h : MadT w W kv lv K M L) (s : ByteArray) (hlen : K.length ≤ 1000000) :
    ∃ va vn vc w', (Builtin.append_ #[24, 24] 24 #[kv, .slice (some ⟨W.heap.size, 0, none⟩) 1 1]).run Tryz.prog (W.alloc (.cells #[.string s] 9)) = .ok (.slice va vn vc) w' ∧ MadT w (w'.setCell ⟨w.heap.size + 1, 2, none⟩ (.slice va vn vc)) (.slice va vn vc) lv (K ++ [s]) M L ∧
      w'.cell? ⟨w.heap.size + 1, 2, none⟩ = some kv ∧ w'.frozen? ⟨w.heap.size + 1, 2, none⟩ = false ∧ w.heap.size + 1 < w'.heap.size ∧ (∀ B cs, BoxC W B 85 cs → BoxC w' B 85 cs) := by
  obtain ⟨i0, hi, hz0, hz1, hz2⟩ := info_parts infoStr
  have hb := bel W (.cells #[.string s] 9)
  have h1 := h.below hb
  have hx := BoxC.new W 9 #[.string s]
  have hbase := h1.m.box.lt
  have hWs := h.m.box.lt
  obtain ⟨v', w', hr, h2, h3, _, h5⟩ := run_append_own_at (P := Tryz.prog) (W.alloc (.cells #[.string s] 9)) (w.heap.size + 2) 24 24 9 i0 (.string ⟨#[]⟩) 1 16 Tryz.underlying24 hi hz0 hz1 hz2 rfl (by decide) kv K.length (K.map Value.string) h1.m.ks ⟨W.heap.size, 0, none⟩ 1 1 [.string s] rfl (by
      intro j u hj
      have := hx.cell j
      rw [addr_plus, Nat.zero_add, this]
      simpa using hj) (by
      intro u hu
      simp only [List.mem_cons, List.not_mem_nil, or_false] at hu
      subst hu
      rfl) (by unfold maxLen; omega) (by omega) (by omega)
  have ho : OwnS (w.heap.size + 2) w' v' (K ++ [s]) := by
    unfold OwnS
    rw [List.length_append, List.map_append]
    exact h2
  obtain ⟨va, vc, rfl, _⟩ := ho.len
  have n1 : some (w.heap.size + 1) ≠ kv.ownBlock := fun e => by have := (h.m.ks.lt _ e.symm).1; omega
  have hbk := h1.m.box.kept h3 n1
  refine ⟨_, _, _, w', hr, ⟨h1.m.putK h3 ho, fun q x T hx hT => (h.ps q x T hx hT).keep fun b hs hlt => ?_⟩, hbk.cell 2, hbk.frozen 2, hbk.lt, fun B cs hB => (hB.below hb).kept h3 (fun e => ?_)⟩
  · obtain ⟨g1, g2, g3⟩ := hs
    have hlt' : b < (W.alloc (.cells #[.string s] 9)).heap.size := by rw [World.size_alloc]; omega
    refine ⟨⟨g1, g2, ?_⟩, ?_⟩
    · rcases h5 with e | e
      · rw [e]; exact g3
      · rw [e]
        intro q
        simp only [World.size_alloc, Option.some.injEq] at q
        omega
    · rw [Below.heap_setCell _ ⟨w.heap.size + 1, 2, none⟩ _ b (by show b ≠ w.heap.size + 1; omega)]
      exact (h3.block b hlt' (fun e => g3 e.symm)).trans (hb.block b hlt)
  · obtain ⟨c, fz, hk⟩ := Lib.ownsRow_kind h1.m.ks B e.symm
    rw [show (W.alloc (.cells #[.string s] 9)).heap[B]? = _ from hB.below hb] at hk
    cases hk
theorem MadT.putV {w W W' : World} {kv lv lv' : Value} {K : List ByteArray} {M : List JC} {L : List JT} {y : JC} {T : JT} (h : MadT w W kv lv K M L) (hg : W.grownBy W' lv.ownBlock) (ho : OwnV (w.heap.size + 2) W' lv' (M ++ [y])) (hrow : lv'.ownBlock = lv.ownBlock ∨ lv'.ownBlock = some W.heap.size) (hT : L[M.length]? = some T) (hy : TIn W (fun b => w.heap.size + 2 ≤ b ∧ lv.ownBlock ≠ some b ∧ kv.ownBlock ≠ some b) y T) :
    MadT w (W'.setCell ⟨w.heap.size + 1, 3, none⟩ lv') kv lv' K (M ++ [y]) L := by
  have hWs := h.m.box.lt
  have hk : ∀ b, (w.heap.size + 2 ≤ b ∧ lv.ownBlock ≠ some b ∧ kv.ownBlock ≠ some b) → b < W.heap.size → (w.heap.size + 2 ≤ b ∧ lv'.ownBlock ≠ some b ∧ kv.ownBlock ≠ some b) ∧ (W'.setCell ⟨w.heap.size + 1, 3, none⟩ lv').heap[b]? = W.heap[b]? := fun b hs hlt => by
    obtain ⟨g1, g2, g3⟩ := hs
    refine ⟨⟨g1, ?_, g3⟩, ?_⟩
    · rcases hrow with e | e
      · rw [e]; exact g2
      · rw [e]
        intro q
        simp only [Option.some.injEq] at q
        omega
    · rw [Below.heap_setCell _ ⟨w.heap.size + 1, 3, none⟩ _ b (by show b ≠ w.heap.size + 1; omega)]
      exact hg.block b hlt (fun e => g2 e.symm)
  refine ⟨h.m.putV hg ho, fun q x T' hx hT' => ?_⟩
  rcases Nat.lt_or_ge q M.length with hq | hq
  · rw [List.getElem?_append_left hq] at hx
    exact (h.ps q x T' hx hT').keep hk
  · rw [List.getElem?_append_right hq] at hx
    obtain rfl : q = M.length := by
      have := (List.getElem?_eq_some_iff.1 hx).1
      simp at this
      omega
    simp at hx
    subst hx
    rw [hT] at hT'
    cases hT'
    exact hy.keep hk
theorem MadT.tree {w W : World} {kv lv : Value} {K : List ByteArray} {M : List JC} {L : List JT} (h : MadT w W kv lv K M L) (hM : M.length = L.length) (x' y' z' u' : Value) :
    TIn ((((W.setCell ⟨w.heap.size, 0, none⟩ x').setCell ⟨w.heap.size, 1, none⟩ y').setCell ⟨w.heap.size, 2, none⟩ z').setCell ⟨w.heap.size, 3, none⟩ u') (fun b => w.heap.size ≤ b) (6, ⟨#[]⟩, kv, lv) (.mk 6 ⟨#[]⟩ K L) := by
  have hk : ∀ b, b ≠ w.heap.size → ((((W.setCell ⟨w.heap.size, 0, none⟩ x').setCell ⟨w.heap.size, 1, none⟩ y').setCell ⟨w.heap.size, 2, none⟩ z').setCell ⟨w.heap.size, 3, none⟩ u').heap[b]? = W.heap[b]? := fun b hb => by
    rw [Below.heap_setCell _ ⟨w.heap.size, 3, none⟩ u' b hb, Below.heap_setCell _ ⟨w.heap.size, 2, none⟩ z' b hb, Below.heap_setCell _ ⟨w.heap.size, 1, none⟩ y' b hb, Below.heap_setCell _ ⟨w.heap.size, 0, none⟩ x' b hb]
  generalize ((((W.setCell ⟨w.heap.size, 0, none⟩ x').setCell ⟨w.heap.size, 1, none⟩ y').setCell ⟨w.heap.size, 2, none⟩ z').setCell ⟨w.heap.size, 3, none⟩ u') = W' at *
  obtain ⟨ya, yc, hlv, _⟩ := h.m.vs.len
  have hvs := h.m.vs
  have hks := h.m.ks
  have hps := h.ps
  rw [hM] at hlv
  subst hlv
  obtain ⟨ka, kc, hkv, _⟩ := hks.len
  subst hkv
  have hex : ∀ i, i < L.length → M[i]? = some (M[i]?.getD zeroC) := fun i h => by rw [List.getElem?_eq_getElem (by omega)]; rfl
  have htr : ∀ i (h : i < L.length), TIn W' (fun b => w.heap.size ≤ b) (M[i]?.getD zeroC) L[i] := fun i hi => (hps i _ _ (hex i hi) (List.getElem?_eq_getElem hi)).keep fun b hs _ => ⟨by show w.heap.size ≤ b; have := hs.1; omega, hk b (by have := hs.1; omega)⟩
  refine .mk 6 ⟨#[]⟩ (.slice ka K.length kc) ya yc K L (fun i => M[i]?.getD zeroC) ⟨ka, kc, rfl, fun j hj => ?_⟩ (fun i hi => ?_) (fun i hi => (htr i hi).sl) htr
  · obtain ⟨g, rfl, hx⟩ := hks.cell (List.getElem?_eq_getElem hj)
    have hg := (hks.lt g rfl).1
    refine ⟨g, 0, rfl, by show w.heap.size ≤ g; omega, ?_⟩
    rw [Nat.zero_add, World.cell?_of_block (a := ⟨g, j, none⟩) (hk g (by omega)), hx]
    simp [nthS, hj]
  · obtain ⟨g, rfl, hc⟩ := hvs.cell (hex i hi)
    have hg := (hvs.lt g rfl).1
    refine ⟨g, 0, rfl, by show w.heap.size ≤ g; omega, fun r hr => ?_⟩
    rw [Nat.zero_add]
    exact (World.cell?_of_block (a := ⟨g, i * 4 + r, none⟩) (hk g (by omega))).trans (hc r hr)

/-- What Made answers. -/
def MadeR (K : List ByteArray) (L : List JT) (w : World) (e : Ending) (w' : World) : Prop := ∃ y : JC, e = .returned (vagg y) ∧ Below w.heap.size w w' ∧ TIn w' (fun b => w.heap.size ≤ b) y (.mk 6 ⟨#[]⟩ K L)

set_option maxHeartbeats 16000000 in
theorem made_any (w : World) (S : Nat → Prop) (pv : Value) (K : List ByteArray) (xs : Nat → JC) (L : List JT) (hP : PairsT w S pv K xs L) (hlen : L.length ≤ 1000000) :
    Calls Tryz.prog 36 #[pv] w (MadeR K (L.map clJ) w) := by
  obtain ⟨pa0, pc0, rfl, hKL, hc⟩ := hP
  obtain ⟨L2, hL2⟩ : ∃ L2, L.map clJ = L2 := ⟨_, rfl⟩
  have hb1 : Below w.heap.size w ((w.alloc (.cells jv0 27)).alloc (.cells #[.int .i64 6, .string ⟨#[]⟩, .slice none 0 0, .slice none 0 0] 27)) := (bel w _).alloc (by simp) _
  have hx1 := (BoxC.new w 27 jv0).alloc (.cells #[.int .i64 6, .string ⟨#[]⟩, .slice none 0 0, .slice none 0 0] 27)
  have hv1 := BoxC.new (w.alloc (.cells jv0 27)) 27 #[.int .i64 6, .string ⟨#[]⟩, .slice none 0 0, .slice none 0 0]
  rw [World.size_alloc] at hv1
  unfold jv0 at hb1 hx1 hv1
  have HI : Hid (MadT w ((w.alloc (.cells #[.int .i64 0, .string ⟨#[]⟩, .slice none 0 0, .slice none 0 0] 27)).alloc (.cells #[.int .i64 6, .string ⟨#[]⟩, .slice none 0 0, .slice none 0 0] 27)) (.slice none 0 0) (.slice none 0 0) (K.take 0) [] L2) := ⟨⟨hv1, ownS_nil _ _, ownV_nil _ _, hb1, hx1⟩, fun q x T h => by simp at h⟩
  have HC := hide hc
  have HLEN : Hid (K.length = L.length) := hKL
  have HL2 := hide hL2
  obtain ⟨n, hn⟩ : ∃ n, L.length = n := ⟨_, rfl⟩
  rw [hn] at HC HLEN hlen
  rw [hL2, hn]
  have HLL := hide hlen
  have HN := hide hn
  clear hc hKL hL2 hb1 hx1 hv1 hn hlen
  go_enter Tryz.func36, Tryz.ntmps36
  go_wp2
  go_loopw [9] (fun iv wr => ∃ (i : Nat) (kv lv : Value) (M : List JC), i ≤ n ∧ iv = .int .i64 (i : Int) ∧ M.length = i ∧ MadT w wr kv lv (K.take i) M L2) (fun iv _ => n - (RowKit.intOf iv).toNat)
  case atStart => exact ⟨0, _, _, [], Nat.zero_le _, rfl, rfl, HI.out⟩
  case round =>
    obtain ⟨i, kv, lv, M, hi, rfl, hMi, hm⟩ := hrel
    obtain ⟨ka, kc, hkv, _⟩ := hm.m.ks.len
    obtain ⟨la, lc, hlv, _⟩ := hm.m.vs.len
    have HMI := hide hMi
    obtain ⟨kn, hkn⟩ : ∃ kn, (K.take i).length = kn := ⟨_, rfl⟩
    obtain ⟨ln, hln⟩ : ∃ ln, M.length = ln := ⟨_, rfl⟩
    rw [hkn] at hkv
    rw [hln] at hlv
    subst hkv hlv
    have HKN := hide hkn
    have HM0 := hide hm
    have HNI := hide hi
    clear HI hm hMi hkn hln
    generalize wr = wo at *
    by_cases hlt : i < n
    · obtain ⟨b, off, Ti, rfl, hcc, hLi, hti, hlti⟩ := HC.out i hlt
      obtain ⟨hs2, hs3⟩ := hti.sl
      have hTi : L2[i]? = some (clJ Ti) := by rw [← HL2.out, List.getElem?_map, hLi]; rfl
      have hblk : b < w.heap.size := block_lt (show w.cell? ⟨b, off + (i * 5 + 0), none⟩ = some _ from hcc 0 (by omega))
      have hcell : ∀ r, r < 5 → wo.cell? ⟨b, off + (i * 5 + r), none⟩ = (pair5 (nthS K i) (xs i))[r]? := fun r hr => (HM0.out.m.low.cell (p := ⟨b, off + (i * 5 + r), none⟩) hblk).trans (hcc r hr)
      have HCL := hide (fun W (hW : Below w.heap.size w W) => clone_any hti hlti W hW)
      generalize xs i = y at *
      obtain ⟨yk, ys, yK, yL⟩ := y
      simp only [vagg] at hs2 hs3 HCL
      obtain ⟨pa, pn, pc', rfl⟩ := hs2
      obtain ⟨qa, qn, qc, rfl⟩ := hs3
      obtain ⟨xk, hxk⟩ : ∃ xk, nthS K i = xk := ⟨_, rfl⟩
      rw [hxk] at hcell
      have k0 := hcell 0 (by omega)
      have k1 := hcell 1 (by omega)
      have k2 := hcell 2 (by omega)
      have k3 := hcell 3 (by omega)
      have k4 := hcell 4 (by omega)
      simp only [pair5, List.getElem?_cons_zero, List.getElem?_cons_succ, ← Nat.add_assoc, Nat.add_zero] at k0 k1 k2 k3 k4
      have d1 : (i : Int) < (n : Int) := by omega
      have d0 : (0 : Int) ≤ (i : Int) := by omega
      have HIL := hide hlt
      obtain ⟨i1, hi1⟩ : ∃ i1, i + 1 = i1 := ⟨_, rfl⟩
      have e1 : (i : Int) + 1 = (i1 : Int) := by omega
      have g1 : (i1 : Int) ≤ 1000000000 := by have := HLL.out; omega
      have HI1 := hide hi1
      have HTK : Hid (K.take i1 = K.take i ++ [xk]) := by
        rw [Hid, ← HI1.out, List.take_add_one, List.getElem?_eq_getElem (by have := HLEN.out; omega), ← hxk]
        simp [nthS, show i < K.length by have := HLEN.out; omega]
      have HTI := hide hTi
      have lG : b < wo.heap.size := Nat.lt_of_lt_of_le hblk HM0.out.m.low.size
      have hb2 := bel wo (.cells #[.string xk, .int .i64 yk, .string ys, .slice pa pn pc', .slice qa qn qc] 85)
      have hx2 := BoxC.new wo 85 #[.string xk, .int .i64 yk, .string ys, .slice pa pn pc', .slice qa qn qc]
      have hm2 := HM0.out.below hb2
      have HBP : Hid (w.heap.size + 1 < wo.heap.size) := HM0.out.m.box.lt
      clear hcell hcc hti hlti hTi hLi hxk hblk hlt hi hi1
      go_upto_region 5 with fail
      generalize hBP : wo.heap.size = BP at *
      generalize wo.alloc (.cells #[.string xk, .int .i64 yk, .string ys, .slice pa pn pc', .slice qa qn qc] 85) = w2 at *
      clear k0 k1 k2 k3 k4 lG hb2 hBP
      obtain ⟨va0, vn0, vc0, w3, hr3, hm3, cV3, fV3, lV3, hkeep⟩ := hm2.key xk (by rw [List.length_take]; have := HLL.out; have := HIL.out; omega)
      have hx3 := hkeep BP _ hx2
      have b0 : w2.cell? ⟨BP, 0, none⟩ = some (.string xk) := hx2.cell 0
      have lb0 := hx2.lt
      have cK : w2.cell? ⟨w.heap.size + 1, 2, none⟩ = some (.slice ka kn kc) := hm2.m.box.cell 2
      have lK := hm2.m.box.lt
      have HM3 := hide hm3
      have HX3 := hide (hx3.other (show BP ≠ w.heap.size + 1 by have := HBP.out; omega) 2 (.slice va0 vn0 vc0))
      clear hm2 hx2 hm3 hx3 hkeep HM0
      go_wp2_with (at_builtin; go_must (refine Lib.wpList_append_run _ rfl _ _ _ _ rfl _ _ rfl rfl _ _ hr3 ?_))
      generalize hw7 : w3.setCell ⟨w.heap.size + 1, 2, none⟩ (.slice va0 vn0 vc0) = w7 at *
      clear hw7 cV3 fV3 lV3 b0 lb0 cK lK hr3
      have HSX : Hid (∀ X0 : World, BoxC X0 BP 85 #[.string xk, .int .i64 yk, .string ys, .slice pa pn pc', .slice qa qn qc] → (X0.cell? ⟨BP, 0, none⟩ = some (.string xk) ∧ X0.cell? ⟨BP, 1, none⟩ = some (.int .i64 yk) ∧ X0.cell? ⟨BP, 2, none⟩ = some (.string ys) ∧ X0.cell? ⟨BP, 3, none⟩ = some (.slice pa pn pc') ∧ X0.cell? ⟨BP, 4, none⟩ = some (.slice qa qn qc))) := fun X0 h => ⟨h.cell 0, h.cell 1, h.cell 2, h.cell 3, h.cell 4⟩
      refine wp_region_held_drew (S := fun X0 : World => X0.cell? ⟨BP, 0, none⟩ = some (.string xk) ∧ X0.cell? ⟨BP, 1, none⟩ = some (.int .i64 yk) ∧ X0.cell? ⟨BP, 2, none⟩ = some (.string ys) ∧ X0.cell? ⟨BP, 3, none⟩ = some (.slice pa pn pc') ∧ X0.cell? ⟨BP, 4, none⟩ = some (.slice qa qn qc)) (by kernel_rfl) (HSX.out _ HX3.out) (fun hHeld => ?_)
      have hdr : Below w7.heap.size w7 w7.drew := (Below.refl _ _).drew
      have HMD := hide (HM3.out.below hdr)
      have HBD := hide (HX3.out.below hdr)
      clear hdr HM3 HX3
      generalize w7.drew = w8 at *
      refine takeD (i := 0) (v := ?v1) (some 20) rfl (by kernel_rfl) (by kernel_rfl) (by kernel_rfl) (fun _ _ _ h => h) (Or.inl ⟨by rfl, ?hy1⟩) (HSX.out _ HBD.out) (by rfl) ?rest1
      case hy1 => first | (intro w hSw; (try dsimp only at hSw); obtain ⟨s0, s1, s2, s3, s4⟩ := hSw; go_simp; done) | (intro w hSw; (try dsimp only at hSw); obtain ⟨s0, s1, s2, s3, s4⟩ := hSw; go_simp; with_reducible rfl)
      try simp only [Act.put, List.setIfInBounds_toArray, List.set_cons_zero, List.set_cons_succ, vagg]
      refine takeD (i := 2) (v := ?v2) (some 22) rfl (by kernel_rfl) (by kernel_rfl) (by kernel_rfl) (fun _ _ _ h => h) (Or.inl ⟨by rfl, ?hy2⟩) (HSX.out _ HBD.out) (by rfl) ?rest2
      case hy2 => first | (intro w hSw; (try dsimp only at hSw); obtain ⟨s0, s1, s2, s3, s4⟩ := hSw; go_simp; done) | (intro w hSw; (try dsimp only at hSw); obtain ⟨s0, s1, s2, s3, s4⟩ := hSw; go_simp; with_reducible rfl)
      try simp only [Act.put, List.setIfInBounds_toArray, List.set_cons_zero, List.set_cons_succ, vagg]
      refine takeD (i := 3) (v := ?v3) (some 23) rfl (by kernel_rfl) (by kernel_rfl) (by kernel_rfl) (fun _ _ _ h => h) (Or.inl ⟨by rfl, ?hy3⟩) (HSX.out _ HBD.out) (by rfl) ?rest3
      case hy3 => first | (intro w hSw; (try dsimp only at hSw); obtain ⟨s0, s1, s2, s3, s4⟩ := hSw; go_simp; done) | (intro w hSw; (try dsimp only at hSw); obtain ⟨s0, s1, s2, s3, s4⟩ := hSw; go_simp; with_reducible rfl)
      try simp only [Act.put, List.setIfInBounds_toArray, List.set_cons_zero, List.set_cons_succ, vagg]
      refine wpAnyH_ready (rs := [1, 4]) (by kernel_rfl) (by simp) ?_
      refine AllReadyH.cons rfl (fun K9 hK => ?_) (AllReadyH.cons rfl (fun K9 hK => ?_) AllReadyH.nil)
      · have clv : w8.cell? ⟨w.heap.size + 1, 3, none⟩ = some (.slice la ln lc) := HMD.out.m.box.cell 3
        go_simp
        refine hK.out _ _ (HSX.out _ HBD.out) (fun _ => ?_)
        clear hK K9 clv
        try simp only [Act.put, List.setIfInBounds_toArray, List.set_cons_zero, List.set_cons_succ, vagg]
        refine wpAnyH_ready (rs := [4]) (by kernel_rfl) (by simp) ?_
        refine AllReadyH.cons rfl (fun K9 hK => ?_) AllReadyH.nil
        go_simp
        refine (HCL.out w8 HMD.out.m.low).mono ?_
        rintro e w4 ⟨y', rfl, hB4, hT4⟩
        obtain ⟨zk, zs, zK, zL⟩ := y'
        obtain ⟨h4, h5⟩ := hT4.sl
        simp only at h4 h5
        obtain ⟨ra, rn, rc, rfl⟩ := h4
        obtain ⟨sa, sn, sc, rfl⟩ := h5
        have HM4 := hide (HMD.out.below hB4)
        have HB4 := hide (HBD.out.below hB4)
        have HT4 := hide (hT4.keep (W' := w4) (S' := fun b => w.heap.size + 2 ≤ b ∧ (Value.slice la ln lc).ownBlock ≠ some b ∧ (Value.slice va0 vn0 vc0).ownBlock ≠ some b) (fun b hs _ => by
          have hs' : w8.heap.size ≤ b := hs
          have h1 := HMD.out.m.box.lt
          refine ⟨⟨by omega, fun e => ?_, fun e => ?_⟩, rfl⟩
          · have := (HMD.out.m.vs.lt _ e).2; omega
          · have := (HMD.out.m.ks.lt _ e).2; omega))
        refine hK.out _ _ (HSX.out _ HB4.out) (fun _ => ?_)
        clear hK K9 hB4 hT4
        try simp only [Act.put, List.setIfInBounds_toArray, List.set_cons_zero, List.set_cons_succ, vagg]
        refine wpAnyH_ready (rs := [5]) (by kernel_rfl) (by simp) ?_
        refine AllReadyH.cons rfl (fun K9 hK => ?_) AllReadyH.nil
        go_simp
        have hbl := bel w4 (.cells #[.int .i64 zk, .string zs, .slice ra rn rc, .slice sa sn sc] 27)
        have hbx := BoxC.new w4 27 #[.int .i64 zk, .string zs, .slice ra rn rc, .slice sa sn sc]
        have HM5 := hide (HM4.out.below hbl)
        have HB5 := hide (HB4.out.below hbl)
        have HT5 := hide (HT4.out.bel hbl)
        refine hK.out _ _ (HSX.out _ HB5.out) (fun _ => ?_)
        clear hK K9 hbl
        try simp only [Act.put, List.setIfInBounds_toArray, List.set_cons_zero, List.set_cons_succ, vagg]
        generalize hBn : w4.heap.size = BN at *
        generalize hw5 : w4.alloc (.cells #[.int .i64 zk, .string zs, .slice ra rn rc, .slice sa sn sc] 27) = w5 at *
        have HBX := hide hbx
        clear hbx hw5
        refine wpAnyH_ready (rs := [6]) (by kernel_rfl) (by simp) ?_
        refine AllReadyH.cons rfl (fun K9 hK => ?_) AllReadyH.nil
        refine wp_appV _ (.tmp 21) (.tmp 25) rfl (w.heap.size + 2) (.slice la ln lc) M rfl HM5.out.m.vs BN _ (zk, zs, .slice ra rn rc, .slice sa sn sc) rfl HBX.out ⟨rfl, rfl⟩ (by have := HMI.out; have := HLL.out; have := HIL.out; omega) (by have := HM5.out.m.box.lt; omega) ?_
        intro lv' w6 hown hgrow hrow
        obtain ⟨ya, yn, yc, rfl⟩ := hown.slice
        have hm6 := HM5.out.putV hgrow hown hrow (by rw [HMI.out]; exact HTI.out) HT5.out
        have n1 : some (w.heap.size + 1) ≠ (Value.slice la ln lc).ownBlock := fun e => by have := (HM5.out.m.vs.lt _ e.symm).1; omega
        have hbx6 := HM5.out.m.box.kept hgrow n1
        have lV4 := hbx6.lt
        have cV4 : w6.cell? ⟨w.heap.size + 1, 3, none⟩ = some (.slice la ln lc) := hbx6.cell 3
        have fV4 : w6.frozen? ⟨w.heap.size + 1, 3, none⟩ = false := hbx6.frozen 3
        have hb6 : BoxC w6 BP 85 #[.string xk, .int .i64 yk, .string ys, .slice pa pn pc', .slice qa qn qc] := HB5.out.kept hgrow (fun e => by
          obtain ⟨c, fz, hk⟩ := Lib.ownsRow_kind HM5.out.m.vs BP e.symm
          rw [show w5.heap[BP]? = _ from HB5.out] at hk
          cases hk)
        have HB6 := hide hb6
        have HB7 := hide (hb6.other (show BP ≠ w.heap.size + 1 by have := HBP.out; omega) 3 (.slice ya yn yc))
        have HM6 := hide hm6
        refine hK.out _ _ (HSX.out _ HB6.out) (fun _ => ?_)
        clear hK K9 hown hgrow hrow hm6 n1 hbx6 hb6
        try simp only [Act.put, List.setIfInBounds_toArray, List.set_cons_zero, List.set_cons_succ, vagg]
        refine takeD (i := 7) (v := ?v4) (some 27) rfl (by kernel_rfl) (by kernel_rfl) (by kernel_rfl) (fun _ _ _ h => h) (Or.inl ⟨by rfl, ?hy4⟩) (HSX.out _ HB6.out) (by rfl) ?rest4
        case hy4 => first | (intro w hSw; (try dsimp only at hSw); obtain ⟨s0, s1, s2, s3, s4⟩ := hSw; go_simp; done) | (intro w hSw; (try dsimp only at hSw); obtain ⟨s0, s1, s2, s3, s4⟩ := hSw; go_simp; with_reducible rfl)
        try simp only [Act.put, List.setIfInBounds_toArray, List.set_cons_zero, List.set_cons_succ, vagg]
        refine wpAnyH_ready (rs := [8]) (by kernel_rfl) (by simp) ?_
        refine AllReadyH.cons rfl (fun K9 hK => ?_) AllReadyH.nil
        go_simp
        refine hK.out _ _ (HSX.out _ HB7.out) (fun _ => ?_)
        clear hK K9
        try simp only [Act.put, List.setIfInBounds_toArray, List.set_cons_zero, List.set_cons_succ, vagg]
        refine wpAnyH_done (by kernel_rfl) ?_ _
        go_wp2
        go_roundw
        case rel => exact ⟨i1, _, _, M ++ [(zk, zs, .slice ra rn rc, .slice sa sn sc)], by have := HIL.out; have := HI1.out; omega, by first | rfl | go_num, by simp [HMI.out, HI1.out], by rw [HTK.out]; exact HM6.out⟩
        case measure => have := HIL.out; have := HI1.out; simp [RowKit.intOf]; omega
      · go_simp
        refine (HCL.out w8 HMD.out.m.low).mono ?_
        rintro e w4 ⟨y', rfl, hB4, hT4⟩
        obtain ⟨zk, zs, zK, zL⟩ := y'
        obtain ⟨h4, h5⟩ := hT4.sl
        simp only at h4 h5
        obtain ⟨ra, rn, rc, rfl⟩ := h4
        obtain ⟨sa, sn, sc, rfl⟩ := h5
        have HM4 := hide (HMD.out.below hB4)
        have HB4 := hide (HBD.out.below hB4)
        have HT4 := hide (hT4.keep (W' := w4) (S' := fun b => w.heap.size + 2 ≤ b ∧ (Value.slice la ln lc).ownBlock ≠ some b ∧ (Value.slice va0 vn0 vc0).ownBlock ≠ some b) (fun b hs _ => by
          have hs' : w8.heap.size ≤ b := hs
          have h1 := HMD.out.m.box.lt
          refine ⟨⟨by omega, fun e => ?_, fun e => ?_⟩, rfl⟩
          · have := (HMD.out.m.vs.lt _ e).2; omega
          · have := (HMD.out.m.ks.lt _ e).2; omega))
        refine hK.out _ _ (HSX.out _ HB4.out) (fun _ => ?_)
        clear hK K9 hB4 hT4
        try simp only [Act.put, List.setIfInBounds_toArray, List.set_cons_zero, List.set_cons_succ, vagg]
        refine wpAnyH_ready (rs := [1, 5]) (by kernel_rfl) (by simp) ?_
        refine AllReadyH.cons rfl (fun K9 hK => ?_) (AllReadyH.cons rfl (fun K9 hK => ?_) AllReadyH.nil)
        · have clv : w4.cell? ⟨w.heap.size + 1, 3, none⟩ = some (.slice la ln lc) := HM4.out.m.box.cell 3
          go_simp
          refine hK.out _ _ (HSX.out _ HB4.out) (fun _ => ?_)
          clear hK K9 clv
          try simp only [Act.put, List.setIfInBounds_toArray, List.set_cons_zero, List.set_cons_succ, vagg]
          refine wpAnyH_ready (rs := [5]) (by kernel_rfl) (by simp) ?_
          refine AllReadyH.cons rfl (fun K9 hK => ?_) AllReadyH.nil
          go_simp
          have hbl := bel w4 (.cells #[.int .i64 zk, .string zs, .slice ra rn rc, .slice sa sn sc] 27)
          have hbx := BoxC.new w4 27 #[.int .i64 zk, .string zs, .slice ra rn rc, .slice sa sn sc]
          have HM5 := hide (HM4.out.below hbl)
          have HB5 := hide (HB4.out.below hbl)
          have HT5 := hide (HT4.out.bel hbl)
          refine hK.out _ _ (HSX.out _ HB5.out) (fun _ => ?_)
          clear hK K9 hbl
          try simp only [Act.put, List.setIfInBounds_toArray, List.set_cons_zero, List.set_cons_succ, vagg]
          generalize hBn : w4.heap.size = BN at *
          generalize hw5 : w4.alloc (.cells #[.int .i64 zk, .string zs, .slice ra rn rc, .slice sa sn sc] 27) = w5 at *
          have HBX := hide hbx
          clear hbx hw5
          refine wpAnyH_ready (rs := [6]) (by kernel_rfl) (by simp) ?_
          refine AllReadyH.cons rfl (fun K9 hK => ?_) AllReadyH.nil
          refine wp_appV _ (.tmp 21) (.tmp 25) rfl (w.heap.size + 2) (.slice la ln lc) M rfl HM5.out.m.vs BN _ (zk, zs, .slice ra rn rc, .slice sa sn sc) rfl HBX.out ⟨rfl, rfl⟩ (by have := HMI.out; have := HLL.out; have := HIL.out; omega) (by have := HM5.out.m.box.lt; omega) ?_
          intro lv' w6 hown hgrow hrow
          obtain ⟨ya, yn, yc, rfl⟩ := hown.slice
          have hm6 := HM5.out.putV hgrow hown hrow (by rw [HMI.out]; exact HTI.out) HT5.out
          have n1 : some (w.heap.size + 1) ≠ (Value.slice la ln lc).ownBlock := fun e => by have := (HM5.out.m.vs.lt _ e.symm).1; omega
          have hbx6 := HM5.out.m.box.kept hgrow n1
          have lV4 := hbx6.lt
          have cV4 : w6.cell? ⟨w.heap.size + 1, 3, none⟩ = some (.slice la ln lc) := hbx6.cell 3
          have fV4 : w6.frozen? ⟨w.heap.size + 1, 3, none⟩ = false := hbx6.frozen 3
          have hb6 : BoxC w6 BP 85 #[.string xk, .int .i64 yk, .string ys, .slice pa pn pc', .slice qa qn qc] := HB5.out.kept hgrow (fun e => by
            obtain ⟨c, fz, hk⟩ := Lib.ownsRow_kind HM5.out.m.vs BP e.symm
            rw [show w5.heap[BP]? = _ from HB5.out] at hk
            cases hk)
          have HB6 := hide hb6
          have HB7 := hide (hb6.other (show BP ≠ w.heap.size + 1 by have := HBP.out; omega) 3 (.slice ya yn yc))
          have HM6 := hide hm6
          refine hK.out _ _ (HSX.out _ HB6.out) (fun _ => ?_)
          clear hK K9 hown hgrow hrow hm6 n1 hbx6 hb6
          try simp only [Act.put, List.setIfInBounds_toArray, List.set_cons_zero, List.set_cons_succ, vagg]
          refine takeD (i := 7) (v := ?v5) (some 27) rfl (by kernel_rfl) (by kernel_rfl) (by kernel_rfl) (fun _ _ _ h => h) (Or.inl ⟨by rfl, ?hy5⟩) (HSX.out _ HB6.out) (by rfl) ?rest5
          case hy5 => first | (intro w hSw; (try dsimp only at hSw); obtain ⟨s0, s1, s2, s3, s4⟩ := hSw; go_simp; done) | (intro w hSw; (try dsimp only at hSw); obtain ⟨s0, s1, s2, s3, s4⟩ := hSw; go_simp; with_reducible rfl)
          try simp only [Act.put, List.setIfInBounds_toArray, List.set_cons_zero, List.set_cons_succ, vagg]
          refine wpAnyH_ready (rs := [8]) (by kernel_rfl) (by simp) ?_
          refine AllReadyH.cons rfl (fun K9 hK => ?_) AllReadyH.nil
          go_simp
          refine hK.out _ _ (HSX.out _ HB7.out) (fun _ => ?_)
          clear hK K9
          try simp only [Act.put, List.setIfInBounds_toArray, List.set_cons_zero, List.set_cons_succ, vagg]
          refine wpAnyH_done (by kernel_rfl) ?_ _
          go_wp2
          go_roundw
          case rel => exact ⟨i1, _, _, M ++ [(zk, zs, .slice ra rn rc, .slice sa sn sc)], by have := HIL.out; have := HI1.out; omega, by first | rfl | go_num, by simp [HMI.out, HI1.out], by rw [HTK.out]; exact HM6.out⟩
          case measure => have := HIL.out; have := HI1.out; simp [RowKit.intOf]; omega
        · go_simp
          have hbl := bel w4 (.cells #[.int .i64 zk, .string zs, .slice ra rn rc, .slice sa sn sc] 27)
          have hbx := BoxC.new w4 27 #[.int .i64 zk, .string zs, .slice ra rn rc, .slice sa sn sc]
          have HM5 := hide (HM4.out.below hbl)
          have HB5 := hide (HB4.out.below hbl)
          have HT5 := hide (HT4.out.bel hbl)
          refine hK.out _ _ (HSX.out _ HB5.out) (fun _ => ?_)
          clear hK K9 hbl
          try simp only [Act.put, List.setIfInBounds_toArray, List.set_cons_zero, List.set_cons_succ, vagg]
          generalize hBn : w4.heap.size = BN at *
          generalize hw5 : w4.alloc (.cells #[.int .i64 zk, .string zs, .slice ra rn rc, .slice sa sn sc] 27) = w5 at *
          have HBX := hide hbx
          clear hbx hw5
          refine wpAnyH_ready (rs := [1]) (by kernel_rfl) (by simp) ?_
          refine AllReadyH.cons rfl (fun K9 hK => ?_) AllReadyH.nil
          have clv : w5.cell? ⟨w.heap.size + 1, 3, none⟩ = some (.slice la ln lc) := HM5.out.m.box.cell 3
          go_simp
          refine hK.out _ _ (HSX.out _ HB5.out) (fun _ => ?_)
          clear hK K9 clv
          try simp only [Act.put, List.setIfInBounds_toArray, List.set_cons_zero, List.set_cons_succ, vagg]
          refine wpAnyH_ready (rs := [6]) (by kernel_rfl) (by simp) ?_
          refine AllReadyH.cons rfl (fun K9 hK => ?_) AllReadyH.nil
          refine wp_appV _ (.tmp 21) (.tmp 25) rfl (w.heap.size + 2) (.slice la ln lc) M rfl HM5.out.m.vs BN _ (zk, zs, .slice ra rn rc, .slice sa sn sc) rfl HBX.out ⟨rfl, rfl⟩ (by have := HMI.out; have := HLL.out; have := HIL.out; omega) (by have := HM5.out.m.box.lt; omega) ?_
          intro lv' w6 hown hgrow hrow
          obtain ⟨ya, yn, yc, rfl⟩ := hown.slice
          have hm6 := HM5.out.putV hgrow hown hrow (by rw [HMI.out]; exact HTI.out) HT5.out
          have n1 : some (w.heap.size + 1) ≠ (Value.slice la ln lc).ownBlock := fun e => by have := (HM5.out.m.vs.lt _ e.symm).1; omega
          have hbx6 := HM5.out.m.box.kept hgrow n1
          have lV4 := hbx6.lt
          have cV4 : w6.cell? ⟨w.heap.size + 1, 3, none⟩ = some (.slice la ln lc) := hbx6.cell 3
          have fV4 : w6.frozen? ⟨w.heap.size + 1, 3, none⟩ = false := hbx6.frozen 3
          have hb6 : BoxC w6 BP 85 #[.string xk, .int .i64 yk, .string ys, .slice pa pn pc', .slice qa qn qc] := HB5.out.kept hgrow (fun e => by
            obtain ⟨c, fz, hk⟩ := Lib.ownsRow_kind HM5.out.m.vs BP e.symm
            rw [show w5.heap[BP]? = _ from HB5.out] at hk
            cases hk)
          have HB6 := hide hb6
          have HB7 := hide (hb6.other (show BP ≠ w.heap.size + 1 by have := HBP.out; omega) 3 (.slice ya yn yc))
          have HM6 := hide hm6
          refine hK.out _ _ (HSX.out _ HB6.out) (fun _ => ?_)
          clear hK K9 hown hgrow hrow hm6 n1 hbx6 hb6
          try simp only [Act.put, List.setIfInBounds_toArray, List.set_cons_zero, List.set_cons_succ, vagg]
          refine takeD (i := 7) (v := ?v6) (some 27) rfl (by kernel_rfl) (by kernel_rfl) (by kernel_rfl) (fun _ _ _ h => h) (Or.inl ⟨by rfl, ?hy6⟩) (HSX.out _ HB6.out) (by rfl) ?rest6
          case hy6 => first | (intro w hSw; (try dsimp only at hSw); obtain ⟨s0, s1, s2, s3, s4⟩ := hSw; go_simp; done) | (intro w hSw; (try dsimp only at hSw); obtain ⟨s0, s1, s2, s3, s4⟩ := hSw; go_simp; with_reducible rfl)
          try simp only [Act.put, List.setIfInBounds_toArray, List.set_cons_zero, List.set_cons_succ, vagg]
          refine wpAnyH_ready (rs := [8]) (by kernel_rfl) (by simp) ?_
          refine AllReadyH.cons rfl (fun K9 hK => ?_) AllReadyH.nil
          go_simp
          refine hK.out _ _ (HSX.out _ HB7.out) (fun _ => ?_)
          clear hK K9
          try simp only [Act.put, List.setIfInBounds_toArray, List.set_cons_zero, List.set_cons_succ, vagg]
          refine wpAnyH_done (by kernel_rfl) ?_ _
          go_wp2
          go_roundw
          case rel => exact ⟨i1, _, _, M ++ [(zk, zs, .slice ra rn rc, .slice sa sn sc)], by have := HIL.out; have := HI1.out; omega, by first | rfl | go_num, by simp [HMI.out, HI1.out], by rw [HTK.out]; exact HM6.out⟩
          case measure => have := HIL.out; have := HI1.out; simp [RowKit.intOf]; omega
    · obtain rfl : i = n := by omega
      have d1 : ¬ (i : Int) < (i : Int) := by omega
      have z0 := HM0.out.m.box.cell 0
      have z1 := HM0.out.m.box.cell 1
      have z2 := HM0.out.m.box.cell 2
      have z3 := HM0.out.m.box.cell 3
      have x0 := HM0.out.m.res.cell 0
      have x1 := HM0.out.m.res.cell 1
      have x2 := HM0.out.m.res.cell 2
      have x3 := HM0.out.m.res.cell 3
      simp only [List.getElem?_toArray, List.getElem?_cons_zero, List.getElem?_cons_succ] at z0 z1 z2 z3 x0 x1 x2 x3
      have y0 := HM0.out.m.res.frozen 0
      have y1 := HM0.out.m.res.frozen 1
      have y2 := HM0.out.m.res.frozen 2
      have y3 := HM0.out.m.res.frozen 3
      have lX := HM0.out.m.res.lt
      have lV := HM0.out.m.box.lt
      have HTK : Hid (K.take i = K) := by rw [Hid, ← HLEN.out]; exact List.take_length
      clear hlt hi
      go_wp2
      refine bodyPost_ret (results_jv rfl rfl (resJ_v HM0.out.m.res (.int .i64 6) (.string ⟨#[]⟩) (.slice ka kn kc) (.slice la ln lc))) rfl ?_
      have ht := HM0.out.tree (by rw [HMI.out, ← HL2.out, List.length_map, HN.out]) (.int .i64 6) (.string ⟨#[]⟩) (.slice ka kn kc) (.slice la ln lc)
      rw [HTK.out] at ht
      exact ⟨_, rfl, below4 HM0.out.m.low (Nat.le_refl _) _ _ _ _, ht⟩

end Go.Proofs.YtbdpmpepmjpadaaGreatDoor

namespace Go.Proofs.YtbdpmpepmjpadaaGreatDoor
set_option linter.unusedVariables false
set_option linter.unusedSimpArgs false
set_option maxRecDepth 100000
open Go Go.RowKit Go.Shelf Go.Lib

/-- The bytes from one place to another. -/
def midT (T : List Nat) (a b : Nat) : List Nat := (T.drop a).take (b - a)
theorem midT_nil (T : List Nat) (a : Nat) : midT T a a = [] := by unfold midT; simp
theorem midT_snoc {T : List Nat} {a b : Nat} (h : a ≤ b) (hb : b < T.length) : midT T a (b + 1) = midT T a b ++ [nth T b] := by
  unfold midT
  rw [show b + 1 - a = (b - a) + 1 by omega, List.take_add_one, List.getElem?_drop, show a + (b - a) = b by omega, List.getElem?_eq_getElem hb]
  simp [nth, hb]
theorem midT_len {T : List Nat} {a b : Nat} (hb : b ≤ T.length) : (midT T a b).length ≤ T.length := by
  unfold midT
  rw [List.length_take, List.length_drop]
  omega
theorem midT_lt {T : List Nat} (hT : ∀ x ∈ T, x < 256) (a b : Nat) : ∀ x ∈ midT T a b, x < 256 := fun x hx => hT x (List.mem_of_mem_drop (List.mem_of_mem_take hx))

set_option maxHeartbeats 8000000 in
theorem quoted_ok (w : World) (R p q d : Nat) (ao : Option Addr) (cap : Nat) (T : List Nat) (hr : RdJ w R (.slice ao T.length cap) p d) (hT : TxJ w R ao cap T) (h0 : nth T p = 34) (hpq : p + 1 ≤ q) (hq : q < T.length) (h1 : nth T q = 34) (hin : ∀ j, p + 1 ≤ j → j < q → 32 ≤ nth T j ∧ nth T j ≠ 34 ∧ nth T j ≠ 92) :
    Calls Tryz.prog 66 #[.pointer (some ⟨R, 0, none⟩)] w fun e w' => e = .returned (.string (strOf (midT T (p + 1) q))) ∧ AtJ w R (.slice ao T.length cap) (q + 1) d w' := by
  have HTK := hide (take_ok w R p d 34 ao cap T hr hT (by omega) h0)
  have hTs : ∀ x ∈ T, x < 256 := hT.byts.small
  have HT := hide hT
  have HIN := hide hin
  have HQ1 := hide h1
  have HQ := hide hq
  have HPQ := hide hpq
  have HRL := hide hr.lt
  have HTS := hide hTs
  have HLN := hide hT.len
  clear hr hT h0 hpq hq h1 hin hTs
  go_enter Tryz.func66, Tryz.ntmps66
  go_wp2_with fail
  refine HTK.out.mono ?_
  rintro e w1 ⟨rfl, hr1, hf1⟩
  have HR1 := hide hr1
  have HF1 := hide hf1
  clear hr1 hf1 HTK
  go_wp2
  go_loopw [3] (fun lv wr => ∃ k : Nat, p + 1 ≤ k ∧ k ≤ q ∧ OwnB w.heap.size wr lv (midT T (p + 1) k) ∧ RdJ wr R (.slice ao T.length cap) k d ∧ Fr R none w wr) (fun _ wr => T.length - rdAt wr R)
  case atStart => exact ⟨p + 1, Nat.le_refl _, HPQ.out, by rw [midT_nil]; exact World.ownsRow_nil _ _ _ _, HR1.out, HF1.out⟩
  case round =>
    obtain ⟨k, hk0, hk, ho, hr, hf⟩ := hrel
    clear HR1 HF1
    have hat := hr.at
    have HAT := hide hat
    have HT2 := hide (HT.out.fr hf)
    have HO := hide ho
    have HR := hide hr
    have HF := hide hf
    have HK0 := hide hk0
    obtain ⟨va, vn, vc, rfl⟩ := ho.slice
    clear hat ho hr hf
    by_cases hlt : k < q
    · obtain ⟨c32, c34, c92⟩ := HIN.out k hk0 hlt
      have HTN := hide (takes_no wr R k d 34 ao cap T HR.out HT2.out (by have := HQ.out; omega) c34)
      have HKL := hide hlt
      clear hlt hk hk0
      go_wp2_with fail
      refine HTN.out.mono ?_
      rintro e w2 ⟨rfl, hb2⟩
      have HB2 := hide hb2
      have HN := hide (next_some w2 R k d ao cap T (HR.out.below hb2) (HT2.out.fr (Fr.of hb2)) (by have := HQ.out; have := HKL.out; omega))
      obtain ⟨c, hc⟩ : ∃ c, nth T k = c := ⟨_, rfl⟩
      rw [hc] at HN c32 c34 c92
      have HC := hide hc
      have hc256 : c < 256 := by
        rw [← hc]
        unfold nth
        have hkl : k < T.length := by have := HQ.out; have := HKL.out; omega
        simp only [List.getElem?_eq_getElem hkl, Option.getD_some]
        exact HTS.out _ (List.getElem_mem hkl)
      clear hb2 HTN hc
      go_wp2_with fail
      refine HN.out.mono ?_
      rintro e w3 ⟨rfl, hb3⟩
      have d92 : ((c : Int) == 92) = false := by rw [beq_eq_false_iff_ne]; omega
      have d32 : ¬ (c : Int) < 32 := by omega
      have hb23 := HB2.out.trans (hb3.mono HB2.out.size)
      have hb4 := bel w3 (.cells #[.int .u8 (c : Int)] 5)
      have hb24 := hb23.trans (hb4.mono hb23.size)
      have HO4 := hide (HO.out.below hb24)
      have HR4 := hide (HR.out.below hb24)
      have HB4 := hide hb24
      have HBY : Hid (Byts (w3.alloc (.cells #[.int .u8 (c : Int)] 5)) (.slice (some ⟨w3.heap.size, 0, none⟩) 1 1) [c]) := byts_lit w3 [c] (by simpa using hc256) (0, 0)
      obtain ⟨k1, hk1⟩ : ∃ k1, k + 1 = k1 := ⟨_, rfl⟩
      have e1 : (k : Int) + 1 = (k1 : Int) := by omega
      have g1 : (k1 : Int) ≤ 1000000000 := by have := HQ.out; have := HKL.out; have := HLN.out; omega
      have HK1 := hide hk1
      have HSZ : Hid (w.heap.size ≤ w3.heap.size) := Nat.le_trans HF.out.size hb23.size
      have HLM := hide (midT_len (T := T) (a := p + 1) (b := k) (by have := HQ.out; have := HKL.out; omega))
      clear hb3 hb23 hb4 hb24 HN HB2 c32 c34 c92 hc256 hk1
      go_wp2_with (at_builtin; go_must (refine wpList_appA _ rfl (.tmp 12) (.tmp 14) rfl w.heap.size (.slice va vn vc) (midT T (p + 1) k) rfl HO4.out _ [c] rfl HBY.out (by have := HLM.out; have := HLN.out; simp only [List.length_cons, List.length_nil]; omega) (by have := HSZ.out; simp only [World.size_alloc]; omega) ?_; intro v' w5 hown' hgrow hrow); have HOW := hide hown'; obtain ⟨av, LL, cv, hv'⟩ := hown'.slice; subst hv'; have hx5 := BoxC.kept HR4.out hgrow (fun q => (HO4.out.off HR4.out) q.symm); have c5 := hx5.cell 1; have f5 := hx5.frozen 1; have l5 := hx5.lt; have HX5 := hide hx5; have HG5 := hide hgrow; clear hown' hgrow hrow hx5)
      go_roundw
      case rel =>
        have hrow : RowTo w none (Value.slice va vn vc).ownBlock := by
          cases hob : (Value.slice va vn vc).ownBlock with
          | none => exact .inl rfl
          | some j => exact .inr (.inr ⟨j, rfl, (HO4.out.lt j hob).1⟩)
        refine ⟨k1, by have := HK0.out; have := HK1.out; omega, by have := HKL.out; have := HK1.out; omega, ?_, RdJ.sets HX5.out, (((HF.out.then HB4.out).trans (Fr.grown HG5.out) hrow).set 1 _)⟩
        rw [← HK1.out, midT_snoc HK0.out (by have := HQ.out; have := HKL.out; omega), HC.out]
        exact HOW.out.fr ((Fr.refl R none w5).set 1 _) (HOW.out.off HX5.out) (by cases (Value.slice av LL cv).ownBlock <;> simp)
      case measure =>
        rw [RdJ.at (RdJ.sets HX5.out), HAT.out]
        have := HQ.out
        have := HKL.out
        have := HK1.out
        omega
    · obtain rfl : k = q := by omega
      have HTY := hide (takes_yes wr R k d 34 ao cap T HR.out HT2.out HQ.out HQ1.out)
      clear hlt hk hk0
      go_wp2_with fail
      refine HTY.out.mono ?_
      rintro e w2 ⟨rfl, hr2, hf2⟩
      have hO2 := HO.out.fr hf2 (HO.out.off HR.out) (by cases (Value.slice va vn vc).ownBlock <;> simp)
      obtain ⟨ao2, cap2, e2, hby, _⟩ := own_byts (midT_lt HTS.out (p + 1) k) hO2
      cases e2
      have hcv := conv_byts hby
      have HR2 := hide hr2
      have HF2 := hide (HF.out.trans hf2 (.inl rfl))
      clear hr2 hf2 hO2 hby HTY
      go_wp2
      go_ret
      exact ⟨rfl, HR2.out, HF2.out⟩

end Go.Proofs.YtbdpmpepmjpadaaGreatDoor

namespace Go.Proofs.YtbdpmpepmjpadaaGreatDoor
set_option linter.unusedVariables false
set_option linter.unusedSimpArgs false
set_option maxRecDepth 100000
open Go Go.RowKit Go.Shelf Go.Lib Go.Maps Go.ChangeShapes Go.WideShapes

theorem zeroUnit (w : World) : (zeroValue 153).run Tryz.prog w = .ok (.agg #[]) w := by kernel_rfl
theorem keyedS : Keyed Tryz.prog 9 := string_keyed Tryz.underlying9
theorem keyOfS {s : ByteArray} (h : s.size ≤ 1000000) : keyOf Tryz.prog 9 (.string s) = some (.string s.data.toList) := by
  have : s.size ≤ maxLen := by unfold maxLen; omega
  simp [keyOf, Tryz.underlying9, mapKey, this]
/-- A map's block: the keys that were put into it, one after the other. -/
def SetB (W : World) (r : Nat) (K : List ByteArray) : Prop :=
  ∃ es clock, W.heap[r]? = some (.map es clock) ∧ es.toList.map (·.key) = K.map Value.string ∧ ∀ s ∈ K, s.size ≤ 1000000
theorem SetB.made (W : World) : SetB (W.alloc (.map #[] 0)) W.heap.size [] := ⟨#[], 0, World.alloc_heap_new W _, rfl, fun s h => by simp at h⟩
theorem SetB.keep {W W' : World} {r : Nat} {K : List ByteArray} (h : SetB W r K) (hb : W'.heap[r]? = W.heap[r]?) : SetB W' r K := by
  obtain ⟨es, clock, h1, h2⟩ := h
  exact ⟨es, clock, hb.trans h1, h2⟩
theorem SetB.lt {W : World} {r : Nat} {K : List ByteArray} (h : SetB W r K) : r < W.heap.size := by
  obtain ⟨es, clock, h1, h2⟩ := h
  exact (Array.getElem?_eq_some_iff.1 h1).1
theorem SetB.keys {es : Array MapEntry} {K : List ByteArray} (h : es.toList.map (·.key) = K.map Value.string) (hs : ∀ s ∈ K, s.size ≤ 1000000) : ∀ e ∈ es.toList, (∃ s ∈ K, e.key = .string s) ∧ ∃ l, keyOf Tryz.prog 9 e.key = some l := fun e he => by
  have hm : e.key ∈ K.map Value.string := by rw [← h]; exact List.mem_map.2 ⟨e, he, rfl⟩
  obtain ⟨s, hsK, e1⟩ := List.mem_map.1 hm
  exact ⟨⟨s, hsK, e1.symm⟩, _, by rw [← e1]; exact keyOfS (hs s hsK)⟩
theorem SetB.look {W : World} {r : Nat} {K : List ByteArray} (h : SetB W r K) {s : ByteArray} (hs : s.size ≤ 1000000) (hn : s ∉ K) :
    (Instr.lookup 144 (.map (some r)) (.string s) true).run Tryz.prog W = .ok (.tuple #[.agg #[], .bool false]) W := by
  obtain ⟨es, clock, h1, h2, h3⟩ := h
  rcases keyedS.find W (keyOfS hs) es.toList (fun e he => (SetB.keys h2 h3 e he).2) with ⟨g1, g2⟩ | ⟨j, e0, g1, g2, g3⟩
  · simp [Instr.lookup, run_underlying Tryz.underlying144, MapKept.run_getObj_map h1, keyedS.check W _ (keyOfS hs), g1, zeroUnit, Result.andThen]
  · exfalso
    obtain ⟨s', hs', e1⟩ := (SetB.keys h2 h3 e0 (List.mem_of_getElem? g2)).1
    rw [g3] at e1
    cases e1
    exact hn hs'
theorem SetB.put {W : World} {r : Nat} {K : List ByteArray} (h : SetB W r K) {s : ByteArray} (hs : s.size ≤ 1000000) (hn : s ∉ K) :
    ∃ o, (Instr.mapUpdate 144 (.map (some r)) (.string s) (.agg #[])).run Tryz.prog W = .ok () (W.putObj r o) ∧ o.isCells = false ∧ SetB (W.putObj r o) r (K ++ [s]) := by
  have hlt := h.lt
  obtain ⟨es, clock, h1, h2, h3⟩ := h
  rcases keyedS.find W (keyOfS hs) es.toList (fun e he => (SetB.keys h2 h3 e he).2) with ⟨g1, g2⟩ | ⟨j, e0, g1, g2, g3⟩
  · refine ⟨.map (es.push ⟨.string s, .agg #[], clock⟩) (clock + 1), ?_, rfl, es.push ⟨.string s, .agg #[], clock⟩, clock + 1, World.putObj_heap_same hlt, ?_, ?_⟩
    · simp [Instr.mapUpdate, run_underlying Tryz.underlying144, MapKept.run_getObj_map h1, keyedS.check W false (keyOfS hs), g1, MapKept.run_setObj_map _ h1, Result.andThen]
      rfl
    · simp [h2]
    · intro t ht
      rcases List.mem_append.1 ht with q | q
      · exact h3 t q
      · simp at q
        rw [q]
        exact hs
  · exfalso
    obtain ⟨s', hs', e1⟩ := (SetB.keys h2 h3 e0 (List.mem_of_getElem? g2)).1
    rw [g3] at e1
    cases e1
    exact hn hs'

theorem Fr.put {R r : Nat} (W : World) (o : Obj) : Fr R (some r) W (W.putObj r o) :=
  ⟨rfl, rfl, rfl, by simp, fun k hk h1 h2 => World.putObj_heap_other (fun e => h2 (by rw [e]))⟩
theorem Fr.weak {R : Nat} {row : Option Nat} {w w' : World} (h : Fr R none w w') : Fr R row w w' := ⟨h.1, h.2.1, h.2.2.1, h.2.2.2.1, fun k hk h1 _ => h.2.2.2.2 k hk h1 (by simp)⟩
theorem SetB.off {W : World} {r R : Nat} {K : List ByteArray} {t : TypeId} {cs : Array Value} (h : SetB W r K) (hb : BoxC W R t cs) : r ≠ R := by
  rintro rfl
  obtain ⟨es, clock, h1, _⟩ := h
  rw [show W.heap[r]? = _ from hb] at h1
  cases h1

set_option maxHeartbeats 8000000 in
theorem key_ok (w : World) (R p q d r : Nat) (ao : Option Addr) (cap : Nat) (T : List Nat) (K : List ByteArray) (hr : RdJ w R (.slice ao T.length cap) p d) (hT : TxJ w R ao cap T) (h0 : nth T p = 34) (hpq : p + 1 ≤ q) (hq : q < T.length) (h1 : nth T q = 34) (hin : ∀ j, p + 1 ≤ j → j < q → 32 ≤ nth T j ∧ nth T j ≠ 34 ∧ nth T j ≠ 92)
    (hS : SetB w r K) (hn : strOf (midT T (p + 1) q) ∉ K) :
    Calls Tryz.prog 94 #[.pointer (some ⟨R, 0, none⟩), .map (some r)] w fun e w' => e = .returned (.string (strOf (midT T (p + 1) q))) ∧ RdJ w' R (.slice ao T.length cap) (q + 1) d ∧ SetB w' r (K ++ [strOf (midT T (p + 1) q)]) ∧ Fr R (some r) w w' := by
  have HQ := hide (quoted_ok w R p q d ao cap T hr hT h0 hpq hq h1 hin)
  have hsz : (strOf (midT T (p + 1) q)).size ≤ 1000000 := by
    rw [strOf_size]
    have := midT_len (T := T) (a := p + 1) (b := q) (by omega)
    have := hT.len
    omega
  have c1 : w.cell? ⟨R, 1, none⟩ = some (.int .i64 (p : Int)) := hr.cell 1
  have lR := hr.lt
  generalize strOf (midT T (p + 1) q) = s at *
  have HSZ := hide hsz
  have HN := hide hn
  have HS := hide hS
  have HNE := hide (hS.off hr)
  clear hr hT h0 hpq hq h1 hin hsz hn hS
  go_enter Tryz.func94, Tryz.ntmps94
  go_wp2_with fail
  refine HQ.out.mono ?_
  rintro e w1 ⟨rfl, hr1, hf1⟩
  have hS1 : SetB w1 r K := HS.out.keep (hf1.block HS.out.lt HNE.out (by simp))
  have hlk := hS1.look HSZ.out HN.out
  have hb2 := bel w1 (.cells #[] 153)
  have HR2 := hide (hr1.below hb2)
  have HF2 := hide (hf1.then hb2)
  have HS2 := hide (hS1.keep (hb2.block r hS1.lt))
  clear hr1 hf1 hS1 hb2 HQ
  go_upto_region 6 with fail
  generalize w1.alloc (.cells #[] 153) = w2 at *
  obtain ⟨o, hput, _, hS3⟩ := HS2.out.put HSZ.out HN.out
  have hne := HNE.out
  have HR3 := hide (show RdJ (w2.putObj r o) R (.slice ao T.length cap) (q + 1) d from (World.putObj_heap_other (fun e => HNE.out e.symm)).trans HR2.out)
  have HF3 := hide (HF2.out.weak.trans (Fr.put (R := R) (r := r) w2 o) (.inr (.inl rfl)))
  have HS3 := hide hS3
  clear hS3 hlk hne
  go_wp2
  go_ret
  exact ⟨rfl, HR3.out, HS3.out, HF3.out⟩

end Go.Proofs.YtbdpmpepmjpadaaGreatDoor

namespace Go.Proofs.YtbdpmpepmjpadaaGreatDoor
set_option linter.unusedVariables false
set_option linter.unusedSimpArgs false
set_option maxRecDepth 100000
open Go Go.RowKit Go.Shelf Go.Lib

theorem OwnS.mono {n m : Nat} {w : World} {v : Value} {K : List ByteArray} (h : OwnS m w v K) (k : n ≤ m) : OwnS n w v K := by
  rcases id h.2 with ⟨rfl, h0⟩ | ⟨g, cap, cur, rfl, hg, hh, hn, hm, hc, ht⟩
  · exact ⟨h.1, .inl ⟨rfl, h0⟩⟩
  · exact ⟨h.1, .inr ⟨g, cap, cur, rfl, by omega, hh, hn, hm, hc, ht⟩⟩
/-- Appending a string to one's own, in a region that draws. -/
theorem wp_appS (w : World) {o : Oper} {a : Act} {K : Act → World → Prop} {Q : Exit → Act → World → Prop} (s x : Operand)
    (ho : o.op = .call { callee := .builtin .append, args := #[s, x], argTypes := #[24, 24] })
    (n₀ : Nat) (v : Value) (Ks : List ByteArray) (hs : a.eval s = v) (hown : OwnS n₀ w v Ks) (b c : Nat) (y : ByteArray) (hx : a.eval x = .slice (some ⟨b, 0, none⟩) 1 c) (hl : BoxC w b 9 #[.string y]) (hsum : Ks.length ≤ 1000000000) (hbase : n₀ ≤ w.heap.size)
    (h : ∀ v' w', OwnS n₀ w' v' (Ks ++ [y]) → w.grownBy w' v.ownBlock → (v'.ownBlock = v.ownBlock ∨ v'.ownBlock = some w.heap.size) → K (a.put o.dst v') w') : o.wp Tryz.prog a w K Q := by
  obtain ⟨i0, hi, hz0, hz1, hz2⟩ := info_parts infoStr
  obtain ⟨v', w', hr, h2, h3', _, h5⟩ := run_append_own_at (P := Tryz.prog) w n₀ 24 o.type 9 i0 _ 1 16 Tryz.underlying24 hi hz0 hz1 hz2 rfl (by decide) v Ks.length (Ks.map Value.string) hown ⟨b, 0, none⟩ 1 c [.string y] rfl (by
      intro j u hj
      have := hl.cell j
      rw [addr_plus, Nat.zero_add, this]
      simpa using hj) (by
      intro u hu
      simp only [List.mem_cons, List.not_mem_nil, or_false] at hu
      rw [hu]
      rfl) (by unfold maxLen; omega) (by omega) hbase
  have h2' : OwnS n₀ w' v' (Ks ++ [y]) := by
    unfold OwnS
    rw [List.length_append, List.map_append]
    exact h2
  unfold Oper.wp execOp
  simp only [ho, resolve, invoke, builtin, Sem.run_bind, Sem.run_pure, Result.andThen_ok, List.map_toArray, List.map_cons, List.map_nil, hs, hx, hr]
  exact h v' w' h2' h3' h5

/-- A part of an object: its key's quotes, the key, its value, the place behind it. -/
structure OP where
  a : Nat
  q : Nat
  s : ByteArray
  x : JC
  z : Nat
/-- An object's parts, from a place on, and the place behind its end. -/
def Chain (T : List Nat) (val : Nat → Option VR) : Nat → Bool → List OP → Nat → Prop
  | p, f, [], z => endL T 125 p f = .yes z
  | p, f, o :: l, z => endL T 125 p f = .no o.a ∧ nth T o.a = 34 ∧ o.a + 1 ≤ o.q ∧ o.q < T.length ∧ nth T o.q = 34 ∧ (∀ j, o.a + 1 ≤ j → j < o.q → 32 ≤ nth T j ∧ nth T j ≠ 34 ∧ nth T j ≠ 92) ∧ o.s = strOf (midT T (o.a + 1) o.q) ∧ blEnd T (o.q + 1) < T.length ∧ nth T (blEnd T (o.q + 1)) = 58 ∧ val (blEnd T (o.q + 1) + 1) = some (.ok o.x o.z) ∧ Chain T val o.z false l z

/-- An object on its way. -/
structure MidO (w W : World) (R : Nat) (sv : Value) (q d : Nat) (kv lv : Value) (KS K : List ByteArray) (M : List JC) : Prop where
  box : BoxC W (w.heap.size + 1) 27 #[.int .i64 6, .string ⟨#[]⟩, kv, lv]
  set : SetB W (w.heap.size + 2) KS
  ks : OwnS (w.heap.size + 3) W kv K
  vs : OwnV (w.heap.size + 3) W lv M
  rd : RdJ W R sv q d
  fr : Fr R none w W
  res : BoxC W w.heap.size 27 #[.int .i64 0, .string ⟨#[]⟩, .slice none 0 0, .slice none 0 0]
  old : R < w.heap.size
theorem MidO.go {w W W' : World} {R : Nat} {sv : Value} {q q' d : Nat} {kv lv : Value} {KS K : List ByteArray} {M : List JC} (h : MidO w W R sv q d kv lv KS K M) (hr : RdJ W' R sv q' d) (hf : Fr R none W W') : MidO w W' R sv q' d kv lv KS K M := by
  have h1 : R < w.heap.size := h.old
  refine ⟨h.box.fr hf (by omega) (by simp), h.set.keep (hf.block h.set.lt (by omega) (by simp)), h.ks.keep (fun j e => hf.block (h.ks.lt j e).2 (fun q => ?_) (by simp)), h.vs.keep (fun j e => hf.block (h.vs.lt j e).2 (fun q => ?_) (by simp)), hr, h.fr.trans hf (.inl rfl), h.res.fr hf (by omega) (by simp), h.old⟩
  · have := (h.ks.lt j e).1
    omega
  · have := (h.vs.lt j e).1
    omega
theorem MidO.below {w W W' : World} {R : Nat} {sv : Value} {q d : Nat} {kv lv : Value} {KS K : List ByteArray} {M : List JC} (h : MidO w W R sv q d kv lv KS K M) (hb : Below W.heap.size W W') : MidO w W' R sv q d kv lv KS K M := h.go (h.rd.below hb) (Fr.of hb)
theorem MidO.key {w W W' : World} {R : Nat} {sv : Value} {q q' d : Nat} {kv lv : Value} {KS KS' K : List ByteArray} {M : List JC} (h : MidO w W R sv q d kv lv KS K M) (hr : RdJ W' R sv q' d) (hs : SetB W' (w.heap.size + 2) KS') (hf : Fr R (some (w.heap.size + 2)) W W') : MidO w W' R sv q' d kv lv KS' K M := by
  have h1 : R < w.heap.size := h.old
  have hsz := h.fr.size
  refine ⟨h.box.fr hf (by omega) (by simp), hs, h.ks.keep (fun j e => hf.block (h.ks.lt j e).2 (fun q => ?_) (fun q => ?_)), h.vs.keep (fun j e => hf.block (h.vs.lt j e).2 (fun q => ?_) (fun q => ?_)), hr, ⟨hf.1.trans h.fr.1, hf.2.1.trans h.fr.2.1, hf.2.2.1.trans h.fr.2.2.1, Nat.le_trans hsz hf.size, fun k hk hne _ => ?_⟩, h.res.fr hf (by omega) (by simp), h.old⟩
  · have := (h.ks.lt j e).1; omega
  · have := (h.ks.lt j e).1; cases q; omega
  · have := (h.vs.lt j e).1; omega
  · have := (h.vs.lt j e).1; cases q; omega
  · exact (hf.block (by omega) hne (fun q => by cases q; omega)).trans (h.fr.block hk hne (by simp))
theorem fr_grown {w W W' : World} {R n : Nat} {v : Value} (hf : Fr R none w W) (hg : W.grownBy W' v.ownBlock) (hlt : ∀ j, v.ownBlock = some j → w.heap.size ≤ j) : Fr R none w W' := by
  have hb := Fr.grown (R := R) hg
  refine ⟨hb.1.trans hf.1, hb.2.1.trans hf.2.1, hb.2.2.1.trans hf.2.2.1, Nat.le_trans hf.size hb.size, fun k hk hne _ => ?_⟩
  refine (hb.block (Nat.lt_of_lt_of_le hk hf.size) hne (fun e => ?_)).trans (hf.block hk hne (by simp))
  have := hlt k e
  omega
theorem MidO.putK {w W W' : World} {R : Nat} {sv : Value} {q d : Nat} {kv kv' lv : Value} {KS K K' : List ByteArray} {M : List JC} (h : MidO w W R sv q d kv lv KS K M) (hg : W.grownBy W' kv.ownBlock) (ho : OwnS (w.heap.size + 3) W' kv' K') : MidO w (W'.setCell ⟨w.heap.size + 1, 2, none⟩ kv') R sv q d kv' lv KS K' M := by
  have h1 : R < w.heap.size := h.old
  have hlt := h.ks.lt
  have n1 : some (w.heap.size + 1) ≠ kv.ownBlock := fun e => by have := (hlt _ e.symm).1; omega
  have n2 : some w.heap.size ≠ kv.ownBlock := fun e => by have := (hlt _ e.symm).1; omega
  have n3 : some R ≠ kv.ownBlock := fun e => by have := (hlt _ e.symm).1; omega
  have n4 : some (w.heap.size + 2) ≠ kv.ownBlock := fun e => by have := (hlt _ e.symm).1; omega
  have hset := h.set.keep (hg.block _ h.set.lt n4)
  have hvs := h.vs.keep (fun j e => hg.block j (h.vs.lt j e).2 (fun q => ownSV h.ks h.vs j q.symm e))
  refine ⟨(h.box.kept hg n1).set 2 kv', hset.keep (Below.heap_setCell W' ⟨w.heap.size + 1, 2, none⟩ kv' _ (by show w.heap.size + 2 ≠ w.heap.size + 1; omega)), ho.set (ho.off (by omega)), hvs.set (hvs.off (by omega)), ?_, ?_, (h.res.kept hg n2).other (by omega) 2 kv', h.old⟩
  · exact BoxC.other (BoxC.kept h.rd hg n3) (show R ≠ w.heap.size + 1 by omega) 2 kv'
  · exact Fr.setNew (fr_grown (n := 0) h.fr hg (fun j e => by have := (hlt j e).1; omega)) (by omega) 2 kv'
theorem MidO.putV {w W W' : World} {R : Nat} {sv : Value} {q d : Nat} {kv lv lv' : Value} {KS K : List ByteArray} {M M' : List JC} (h : MidO w W R sv q d kv lv KS K M) (hg : W.grownBy W' lv.ownBlock) (ho : OwnV (w.heap.size + 3) W' lv' M') : MidO w (W'.setCell ⟨w.heap.size + 1, 3, none⟩ lv') R sv q d kv lv' KS K M' := by
  have h1 : R < w.heap.size := h.old
  have hlt := h.vs.lt
  have n1 : some (w.heap.size + 1) ≠ lv.ownBlock := fun e => by have := (hlt _ e.symm).1; omega
  have n2 : some w.heap.size ≠ lv.ownBlock := fun e => by have := (hlt _ e.symm).1; omega
  have n3 : some R ≠ lv.ownBlock := fun e => by have := (hlt _ e.symm).1; omega
  have n4 : some (w.heap.size + 2) ≠ lv.ownBlock := fun e => by have := (hlt _ e.symm).1; omega
  have hset := h.set.keep (hg.block _ h.set.lt n4)
  have hks := h.ks.keep (fun j e => hg.block j (h.ks.lt j e).2 (fun q => ownSV h.ks h.vs j e q.symm))
  refine ⟨(h.box.kept hg n1).set 3 lv', hset.keep (Below.heap_setCell W' ⟨w.heap.size + 1, 3, none⟩ lv' _ (by show w.heap.size + 2 ≠ w.heap.size + 1; omega)), hks.set (hks.off (by omega)), ho.set (ho.off (by omega)), ?_, ?_, (h.res.kept hg n2).other (by omega) 3 lv', h.old⟩
  · exact BoxC.other (BoxC.kept h.rd hg n3) (show R ≠ w.heap.size + 1 by omega) 3 lv'
  · exact Fr.setNew (fr_grown (n := 0) h.fr hg (fun j e => by have := (hlt j e).1; omega)) (by omega) 3 lv'

/-- What object answers of such a text. -/
def ObjJ (Ks : List ByteArray) (Ms : List JC) (z : Nat) (w : World) (R : Nat) (sv : Value) (d : Nat) (e : Ending) (w' : World) : Prop :=
  ∃ kv lv, e = .returned (vagg (6, ⟨#[]⟩, kv, lv)) ∧ OwnS w.heap.size w' kv Ks ∧ OwnV w.heap.size w' lv Ms ∧ AtJ w R sv z d w'

set_option maxHeartbeats 16000000 in
theorem object_ok (val : Nat → Option VR) (w : World) (R p d : Nat) (ao : Option Addr) (cap : Nat) (T : List Nat) (P : List OP) (z : Nat) (Ks : List ByteArray) (Ms : List JC) (hr : RdJ w R (.slice ao T.length cap) p d) (hT : TxJ w R ao cap T) (hp : p ≤ T.length) (hv : HVal val R d ao cap T) (hok : OkV val T)
    (hKs : Ks = P.map (·.s)) (hMs : Ms = P.map (·.x)) (hch : Chain T val p true P z) (hnd : Ks.Nodup) :
    Calls Tryz.prog 69 #[.pointer (some ⟨R, 0, none⟩)] w (ObjJ Ks Ms z w R (.slice ao T.length cap) d) := by
  have hRw := hr.lt
  have hb1 : Below w.heap.size w (((w.alloc (.cells jv0 27)).alloc (.cells #[.int .i64 6, .string ⟨#[]⟩, .slice none 0 0, .slice none 0 0] 27)).alloc (.map #[] 0)) := ((bel w _).alloc (by simp) _).alloc (by simp only [World.size_alloc]; omega) _
  have hx1 := ((BoxC.new w 27 jv0).alloc (.cells #[.int .i64 6, .string ⟨#[]⟩, .slice none 0 0, .slice none 0 0] 27)).alloc (.map #[] 0)
  have hv1 := (BoxC.new (w.alloc (.cells jv0 27)) 27 #[.int .i64 6, .string ⟨#[]⟩, .slice none 0 0, .slice none 0 0]).alloc (.map #[] 0)
  have hm1 := SetB.made ((w.alloc (.cells jv0 27)).alloc (.cells #[.int .i64 6, .string ⟨#[]⟩, .slice none 0 0, .slice none 0 0] 27))
  rw [World.size_alloc] at hv1
  rw [World.size_alloc, World.size_alloc] at hm1
  unfold jv0 at hb1 hx1 hv1 hm1
  have hr1 := hr.below hb1
  have HI : Hid (∃ (q : Nat) (K : List ByteArray) (M : List JC) (kv lv : Value) (rest : List OP), rest.length = P.length ∧ Ks = K ++ rest.map (·.s) ∧ Ms = M ++ rest.map (·.x) ∧ Chain T val q (decide (M.length = 0)) rest z ∧ q ≤ T.length ∧ K.length ≤ q ∧ M.length = K.length ∧ MidO w (((w.alloc (.cells #[.int .i64 0, .string ⟨#[]⟩, .slice none 0 0, .slice none 0 0] 27)).alloc (.cells #[.int .i64 6, .string ⟨#[]⟩, .slice none 0 0, .slice none 0 0] 27)).alloc (.map #[] 0)) R (.slice ao T.length cap) q d kv lv K K M) :=
    ⟨p, [], [], .slice none 0 0, .slice none 0 0, P, rfl, hKs, hMs, hch, hp, Nat.zero_le _, rfl, hv1, hm1, ownS_nil _ _, ownV_nil _ _, hr1, Fr.of hb1, hx1, hRw⟩
  have HT := hide hT
  have HRW := hide hRw
  have HVL := hide hv
  have HOK := hide hok
  have HND := hide hnd
  clear hr hRw hb1 hx1 hv1 hm1 hr1 hT hp hv hok hnd hKs hMs hch
  have hmm := @run_makeMap Tryz.prog
  go_enter Tryz.func69, Tryz.ntmps69
  go_wp2
  go_loopg [] P.length (fun g wr => ∃ (q : Nat) (K : List ByteArray) (M : List JC) (kv lv : Value) (rest : List OP), rest.length = g ∧ Ks = K ++ rest.map (·.s) ∧ Ms = M ++ rest.map (·.x) ∧ Chain T val q (decide (M.length = 0)) rest z ∧ q ≤ T.length ∧ K.length ≤ q ∧ M.length = K.length ∧ MidO w wr R (.slice ao T.length cap) q d kv lv K K M)
  case atStart => exact HI.out
  case round =>
    obtain ⟨q, K, M, kv, lv, rest, hg, hKK, hMM, hch, hq, hKq, hMK, hm⟩ := hrel
    obtain ⟨la, lc, rfl, hlc⟩ := hm.vs.len
    obtain ⟨ka, kc, rfl, hkc⟩ := hm.ks.len
    have cl : wr.cell? ⟨w.heap.size + 1, 3, none⟩ = some (.slice la M.length lc) := hm.box.cell 3
    have hfst : (((M.length : Nat) : Int) == 0) = decide (M.length = 0) := by
      by_cases e : M.length = 0
      · rw [e]; rfl
      · rw [decide_eq_false e]; exact beq_eq_false_iff_ne.2 (by omega)
    have HE := hide (ended_calls wr R q d 125 (decide (M.length = 0)) ao cap T hm.rd (HT.out.fr hm.fr) hq)
    have HM := hide hm
    have HMK := hide hMK
    have HKQ := hide hKq
    have HQ := hide hq
    have HKK := hide hKK
    have HMM := hide hMM
    cases rest with
    | nil =>
      have hch' : endL T 125 q (decide (M.length = 0)) = .yes z := hch
      rw [hch'] at HE
      have HZ := hide (endL_le (c := 125) (f := decide (M.length = 0)) hq (.inl hch'))
      generalize hfi : decide (M.length = 0) = fi at *
      clear hch hch' hm hMK hKq hq hKK hMM hg hfi HI
      go_wp2_with fail
      refine HE.out.mono ?_
      rintro e w1 ⟨rfl, hr1, hf1⟩
      have hm := HM.out.go hr1 hf1
      have HM1 := hide hm
      have v0 : w1.cell? ⟨w.heap.size + 1, 0, none⟩ = some (.int .i64 6) := hm.box.cell 0
      have v1 : w1.cell? ⟨w.heap.size + 1, 1, none⟩ = some (.string ⟨#[]⟩) := hm.box.cell 1
      have v2 : w1.cell? ⟨w.heap.size + 1, 2, none⟩ = some (.slice ka K.length kc) := hm.box.cell 2
      have v3 : w1.cell? ⟨w.heap.size + 1, 3, none⟩ = some (.slice la M.length lc) := hm.box.cell 3
      have x0 : w1.cell? ⟨w.heap.size, 0, none⟩ = some (.int .i64 0) := hm.res.cell 0
      have x1 : w1.cell? ⟨w.heap.size, 1, none⟩ = some (.string ⟨#[]⟩) := hm.res.cell 1
      have x2 : w1.cell? ⟨w.heap.size, 2, none⟩ = some (.slice none 0 0) := hm.res.cell 2
      have x3 : w1.cell? ⟨w.heap.size, 3, none⟩ = some (.slice none 0 0) := hm.res.cell 3
      have y0 := hm.res.frozen 0
      have y1 := hm.res.frozen 1
      have y2 := hm.res.frozen 2
      have y3 := hm.res.frozen 3
      have lX := hm.res.lt
      have lV := hm.box.lt
      clear hf1 hr1 hm cl
      go_wp2
      refine bodyPost_ret (results_jv rfl rfl (resJ_v HM1.out.res (.int .i64 6) (.string ⟨#[]⟩) (.slice ka K.length kc) (.slice la M.length lc))) rfl ?_
      have hn : ∀ {W : World} (i : Nat) (x : Value), Fr R none w W → Fr R none w (W.setCell ⟨w.heap.size, i, none⟩ x) := fun i x h => h.setNew (Nat.le_refl _) i x
      have hok1 : (Value.slice ka K.length kc).ownBlock ≠ some w.heap.size := HM1.out.ks.off (by omega)
      have hok2 : (Value.slice la M.length lc).ownBlock ≠ some w.heap.size := HM1.out.vs.off (by omega)
      have hneX : R ≠ w.heap.size := by have := HRW.out; omega
      have eK : Ks = K := by have := HKK.out; simpa using this
      have eM : Ms = M := by have := HMM.out; simpa using this
      rw [eK, eM]
      refine ⟨_, _, rfl, OwnS.mono ((((HM1.out.ks.set hok1).set hok1).set hok1).set hok1) (by omega), ((((HM1.out.vs.set hok2).set hok2).set hok2).set hok2).mono (by omega), ?_, hn 3 _ (hn 2 _ (hn 1 _ (hn 0 _ HM1.out.fr)))⟩
      exact (((BoxC.other HM1.out.rd hneX 0 _).other hneX 1 _).other hneX 2 _).other hneX 3 _
    | cons o rest =>
      obtain ⟨n, rfl⟩ : ∃ n, gk = n + 1 := ⟨rest.length, by simpa using hg.symm⟩
      have hgn : rest.length = n := by simpa using hg
      obtain ⟨h1, h2, h3, h4, h5, h6, h6s, h7, h8, h9, h10⟩ := hch
      rw [h1] at HE
      have ha := endL_le (c := 125) (f := decide (M.length = 0)) hq (.inr h1)
      have hqa := no_ge h1
      obtain ⟨oa, oq, os, ⟨xk, xs, xa, xl⟩, oz⟩ := o
      simp only at h1 h2 h3 h4 h5 h6 h6s h7 h8 h9 h10 ha hqa HE
      have hnK : os ∉ K := by
        have hnd := HND.out
        rw [hKK, List.map_cons] at hnd
        intro hin
        exact (List.nodup_append.1 hnd).2.2 _ hin _ (List.mem_cons_self) rfl
      obtain ⟨g1, g2, g3⟩ := HOK.out _ _ _ h9
      have hbg := blEnd_ge T (oq + 1)
      have HQZ : Hid (oa < oz ∧ oz ≤ T.length) := ⟨by omega, g2⟩
      have HXO := hide g3
      have HQA := hide hqa
      have HH := hide (And.intro h2 (And.intro h3 (And.intro h4 (And.intro h5 h6))))
      have HSS := hide h6s
      have HH7 := hide h7
      have HH8 := hide h8
      have HH9 := hide h9
      have HCH := hide h10
      have HNK := hide hnK
      have HG := hide hgn
      generalize hfi : decide (M.length = 0) = fi at *
      clear h1 h2 h3 h4 h5 h6 h6s h7 h8 h9 h10 ha hqa g1 g2 g3 hbg hnK hg hgn hm hMK hKq hq hKK hMM hfi HI
      go_wp2_with fail
      refine HE.out.mono ?_
      rintro e w1 ⟨rfl, hr1, hf1⟩
      have hm := HM.out.go hr1 hf1
      have HM1 := hide hm
      have HKC : Hid (∀ W, Below w1.heap.size w1 W → Calls Tryz.prog 94 #[.pointer (some ⟨R, 0, none⟩), .map (some (w.heap.size + 2))] W fun e w' => e = .returned (.string os) ∧ RdJ w' R (.slice ao T.length cap) (oq + 1) d ∧ SetB w' (w.heap.size + 2) (K ++ [os]) ∧ Fr R (some (w.heap.size + 2)) W w') := fun W hW => by
        obtain ⟨h2, h3, h4, h5, h6⟩ := HH.out
        have hmW := HM1.out.below hW
        have h := key_ok W R oa oq d (w.heap.size + 2) ao cap T K hmW.rd (HT.out.fr hmW.fr) h2 h3 h4 h5 h6 hmW.set (by rw [← HSS.out]; exact HNK.out)
        rw [← HSS.out] at h
        exact h
      have HKL : Hid (K.length ≤ 1000000) := by have := HKQ.out; have := HQ.out; have := HT.out.len; unfold Hid; omega
      have HML : Hid (M.length ≤ 1000000) := by have := HKQ.out; have := HQ.out; have := HT.out.len; have := HMK.out; unfold Hid; omega
      clear hf1 hr1 hm cl HE HM
      generalize hos : os = s at *
      go_upto_region 4 with fail
      go_cut [] from 14 to 21 (fun wx => ∃ kv : Value, MidO w wx R (.slice ao T.length cap) (oq + 1) d kv (.slice la M.length lc) (K ++ [s]) (K ++ [s]) M)
      case first =>
        refine wp_region_held_drew (S := fun X : World => True) (by kernel_rfl) trivial (fun hHeld => ?_)
        have hdr : Below w1.heap.size w1 w1.drew := (Below.refl _ _).drew
        have HDR := hide hdr
        clear hdr
        refine takeD (i := 0) (v := ?v1) (some 14) rfl (by kernel_rfl) (by kernel_rfl) (by kernel_rfl) (fun _ _ _ h => h) (Or.inl ⟨by rfl, ?hy1⟩) (by trivial) (by rfl) ?rest1
        case hy1 => first | (intro w hSw; go_simp; done) | (intro w hSw; go_simp; with_reducible rfl)
        try simp only [Act.put, List.setIfInBounds_toArray, List.set_cons_zero, List.set_cons_succ]
        refine takeD (i := 2) (v := ?v2) (some 16) rfl (by kernel_rfl) (by kernel_rfl) (by kernel_rfl) (fun _ _ _ h => h) (Or.inl ⟨by rfl, ?hy2⟩) (by trivial) (by rfl) ?rest2
        case hy2 => first | (intro w hSw; go_simp; done) | (intro w hSw; go_simp; with_reducible rfl)
        try simp only [Act.put, List.setIfInBounds_toArray, List.set_cons_zero, List.set_cons_succ]
        refine takeD (i := 3) (v := ?v3) (some 17) rfl (by kernel_rfl) (by kernel_rfl) (by kernel_rfl) (fun _ _ _ h => h) (Or.inl ⟨by rfl, ?hy3⟩) (by trivial) (by rfl) ?rest3
        case hy3 => first | (intro w hSw; go_simp; done) | (intro w hSw; go_simp; with_reducible rfl)
        try simp only [Act.put, List.setIfInBounds_toArray, List.set_cons_zero, List.set_cons_succ]
        refine wpAnyH_ready (rs := [1, 4]) (by kernel_rfl) (by simp) ?_
        refine AllReadyH.cons rfl (fun K9 hK => ?_) (AllReadyH.cons rfl (fun K9 hK => ?_) AllReadyH.nil)
        · have clk : w1.cell? ⟨w.heap.size + 1, 2, none⟩ = some (.slice ka K.length kc) := HM1.out.box.cell 2
          go_simp
          refine hK.out _ _ trivial (fun _ => ?_)
          clear hK K9 clk
          try simp only [Act.put, List.setIfInBounds_toArray, List.set_cons_zero, List.set_cons_succ]
          refine wpAnyH_ready (rs := [4]) (by kernel_rfl) (by simp) ?_
          refine AllReadyH.cons rfl (fun K9 hK => ?_) AllReadyH.nil
          go_simp
          refine (HKC.out _ HDR.out).mono ?_
          rintro e w2 ⟨rfl, hr2, hs2, hf2⟩
          have HM2 := hide ((HM1.out.below HDR.out).key hr2 hs2 hf2)
          refine hK.out _ _ trivial (fun _ => ?_)
          clear hK K9 hr2 hs2 hf2
          try simp only [Act.put, List.setIfInBounds_toArray, List.set_cons_zero, List.set_cons_succ]
          refine wpAnyH_ready (rs := [5]) (by kernel_rfl) (by simp) ?_
          refine AllReadyH.cons rfl (fun K9 hK => ?_) AllReadyH.nil
          go_simp
          have hbl := bel w2 (.cells #[.string s] 9)
          have hbx := BoxC.new w2 9 #[.string s]
          have HM3 := hide (HM2.out.below hbl)
          refine hK.out _ _ trivial (fun _ => ?_)
          clear hK K9 hbl
          try simp only [Act.put, List.setIfInBounds_toArray, List.set_cons_zero, List.set_cons_succ]
          generalize hB : w2.heap.size = B at *
          generalize hw3 : w2.alloc (.cells #[.string s] 9) = w3 at *
          have HBX := hide hbx
          clear hbx hw3
          refine wpAnyH_ready (rs := [6]) (by kernel_rfl) (by simp) ?_
          refine AllReadyH.cons rfl (fun K9 hK => ?_) AllReadyH.nil
          refine wp_appS _ (.tmp 15) (.tmp 19) rfl (w.heap.size + 3) (.slice ka K.length kc) K rfl HM3.out.ks B _ s rfl HBX.out (by have := HKL.out; omega) (by have := HM3.out.set.lt; omega) ?_
          intro kv' w4 hown hgrow hrow
          obtain ⟨va, vc, hv', hvc⟩ := hown.len
          obtain ⟨kn, hkn⟩ : ∃ kn, (K ++ [s]).length = kn := ⟨_, rfl⟩
          rw [hkn] at hv'
          subst hv'
          have hm5 := HM3.out.putK hgrow hown
          have n1 : some (w.heap.size + 1) ≠ (.slice ka K.length kc : Value).ownBlock := fun e => by have := (HM3.out.ks.lt _ e.symm).1; omega
          have lV4 : w.heap.size + 1 < w4.heap.size := (HM3.out.box.kept hgrow n1).lt
          have cV4 : w4.cell? ⟨w.heap.size + 1, 2, none⟩ = some (.slice ka K.length kc) := (HM3.out.box.kept hgrow n1).cell 2
          have fV4 : w4.frozen? ⟨w.heap.size + 1, 2, none⟩ = false := (HM3.out.box.kept hgrow n1).frozen 2
          have HM5 := hide hm5
          refine hK.out _ _ trivial (fun _ => ?_)
          clear hK K9 hown hgrow hrow hm5 n1 hkn hvc
          try simp only [Act.put, List.setIfInBounds_toArray, List.set_cons_zero, List.set_cons_succ]
          refine takeD (i := 7) (v := ?v4) (some 21) rfl (by kernel_rfl) (by kernel_rfl) (by kernel_rfl) (fun _ _ _ h => h) (Or.inl ⟨by rfl, ?hy4⟩) (by trivial) (by rfl) ?rest4
          case hy4 => first | (intro w hSw; go_simp; done) | (intro w hSw; go_simp; with_reducible rfl)
          try simp only [Act.put, List.setIfInBounds_toArray, List.set_cons_zero, List.set_cons_succ]
          refine wpAnyH_ready (rs := [8]) (by kernel_rfl) (by simp) ?_
          refine AllReadyH.cons rfl (fun K9 hK => ?_) AllReadyH.nil
          go_simp
          refine hK.out _ _ trivial (fun _ => ?_)
          clear hK K9
          try simp only [Act.put, List.setIfInBounds_toArray, List.set_cons_zero, List.set_cons_succ]
          refine wpAnyH_done (by kernel_rfl) ?_ _
          go_wp2_with fail
          go_meet
          exact ⟨.slice va kn vc, HM5.out⟩
        · go_simp
          refine (HKC.out _ HDR.out).mono ?_
          rintro e w2 ⟨rfl, hr2, hs2, hf2⟩
          have HM2 := hide ((HM1.out.below HDR.out).key hr2 hs2 hf2)
          refine hK.out _ _ trivial (fun _ => ?_)
          clear hK K9 hr2 hs2 hf2
          try simp only [Act.put, List.setIfInBounds_toArray, List.set_cons_zero, List.set_cons_succ]
          refine wpAnyH_ready (rs := [1, 5]) (by kernel_rfl) (by simp) ?_
          refine AllReadyH.cons rfl (fun K9 hK => ?_) (AllReadyH.cons rfl (fun K9 hK => ?_) AllReadyH.nil)
          · have clk : w2.cell? ⟨w.heap.size + 1, 2, none⟩ = some (.slice ka K.length kc) := HM2.out.box.cell 2
            go_simp
            refine hK.out _ _ trivial (fun _ => ?_)
            clear hK K9 clk
            try simp only [Act.put, List.setIfInBounds_toArray, List.set_cons_zero, List.set_cons_succ]
            refine wpAnyH_ready (rs := [5]) (by kernel_rfl) (by simp) ?_
            refine AllReadyH.cons rfl (fun K9 hK => ?_) AllReadyH.nil
            go_simp
            have hbl := bel w2 (.cells #[.string s] 9)
            have hbx := BoxC.new w2 9 #[.string s]
            have HM3 := hide (HM2.out.below hbl)
            refine hK.out _ _ trivial (fun _ => ?_)
            clear hK K9 hbl
            try simp only [Act.put, List.setIfInBounds_toArray, List.set_cons_zero, List.set_cons_succ]
            generalize hB : w2.heap.size = B at *
            generalize hw3 : w2.alloc (.cells #[.string s] 9) = w3 at *
            have HBX := hide hbx
            clear hbx hw3
            refine wpAnyH_ready (rs := [6]) (by kernel_rfl) (by simp) ?_
            refine AllReadyH.cons rfl (fun K9 hK => ?_) AllReadyH.nil
            refine wp_appS _ (.tmp 15) (.tmp 19) rfl (w.heap.size + 3) (.slice ka K.length kc) K rfl HM3.out.ks B _ s rfl HBX.out (by have := HKL.out; omega) (by have := HM3.out.set.lt; omega) ?_
            intro kv' w4 hown hgrow hrow
            obtain ⟨va, vc, hv', hvc⟩ := hown.len
            obtain ⟨kn, hkn⟩ : ∃ kn, (K ++ [s]).length = kn := ⟨_, rfl⟩
            rw [hkn] at hv'
            subst hv'
            have hm5 := HM3.out.putK hgrow hown
            have n1 : some (w.heap.size + 1) ≠ (.slice ka K.length kc : Value).ownBlock := fun e => by have := (HM3.out.ks.lt _ e.symm).1; omega
            have lV4 : w.heap.size + 1 < w4.heap.size := (HM3.out.box.kept hgrow n1).lt
            have cV4 : w4.cell? ⟨w.heap.size + 1, 2, none⟩ = some (.slice ka K.length kc) := (HM3.out.box.kept hgrow n1).cell 2
            have fV4 : w4.frozen? ⟨w.heap.size + 1, 2, none⟩ = false := (HM3.out.box.kept hgrow n1).frozen 2
            have HM5 := hide hm5
            refine hK.out _ _ trivial (fun _ => ?_)
            clear hK K9 hown hgrow hrow hm5 n1 hkn hvc
            try simp only [Act.put, List.setIfInBounds_toArray, List.set_cons_zero, List.set_cons_succ]
            refine takeD (i := 7) (v := ?v5) (some 21) rfl (by kernel_rfl) (by kernel_rfl) (by kernel_rfl) (fun _ _ _ h => h) (Or.inl ⟨by rfl, ?hy5⟩) (by trivial) (by rfl) ?rest5
            case hy5 => first | (intro w hSw; go_simp; done) | (intro w hSw; go_simp; with_reducible rfl)
            try simp only [Act.put, List.setIfInBounds_toArray, List.set_cons_zero, List.set_cons_succ]
            refine wpAnyH_ready (rs := [8]) (by kernel_rfl) (by simp) ?_
            refine AllReadyH.cons rfl (fun K9 hK => ?_) AllReadyH.nil
            go_simp
            refine hK.out _ _ trivial (fun _ => ?_)
            clear hK K9
            try simp only [Act.put, List.setIfInBounds_toArray, List.set_cons_zero, List.set_cons_succ]
            refine wpAnyH_done (by kernel_rfl) ?_ _
            go_wp2_with fail
            go_meet
            exact ⟨.slice va kn vc, HM5.out⟩
          · go_simp
            have hbl := bel w2 (.cells #[.string s] 9)
            have hbx := BoxC.new w2 9 #[.string s]
            have HM3 := hide (HM2.out.below hbl)
            refine hK.out _ _ trivial (fun _ => ?_)
            clear hK K9 hbl
            try simp only [Act.put, List.setIfInBounds_toArray, List.set_cons_zero, List.set_cons_succ]
            generalize hB : w2.heap.size = B at *
            generalize hw3 : w2.alloc (.cells #[.string s] 9) = w3 at *
            have HBX := hide hbx
            clear hbx hw3
            refine wpAnyH_ready (rs := [1]) (by kernel_rfl) (by simp) ?_
            refine AllReadyH.cons rfl (fun K9 hK => ?_) AllReadyH.nil
            have clk : w3.cell? ⟨w.heap.size + 1, 2, none⟩ = some (.slice ka K.length kc) := HM3.out.box.cell 2
            go_simp
            refine hK.out _ _ trivial (fun _ => ?_)
            clear hK K9 clk
            try simp only [Act.put, List.setIfInBounds_toArray, List.set_cons_zero, List.set_cons_succ]
            refine wpAnyH_ready (rs := [6]) (by kernel_rfl) (by simp) ?_
            refine AllReadyH.cons rfl (fun K9 hK => ?_) AllReadyH.nil
            refine wp_appS _ (.tmp 15) (.tmp 19) rfl (w.heap.size + 3) (.slice ka K.length kc) K rfl HM3.out.ks B _ s rfl HBX.out (by have := HKL.out; omega) (by have := HM3.out.set.lt; omega) ?_
            intro kv' w4 hown hgrow hrow
            obtain ⟨va, vc, hv', hvc⟩ := hown.len
            obtain ⟨kn, hkn⟩ : ∃ kn, (K ++ [s]).length = kn := ⟨_, rfl⟩
            rw [hkn] at hv'
            subst hv'
            have hm5 := HM3.out.putK hgrow hown
            have n1 : some (w.heap.size + 1) ≠ (.slice ka K.length kc : Value).ownBlock := fun e => by have := (HM3.out.ks.lt _ e.symm).1; omega
            have lV4 : w.heap.size + 1 < w4.heap.size := (HM3.out.box.kept hgrow n1).lt
            have cV4 : w4.cell? ⟨w.heap.size + 1, 2, none⟩ = some (.slice ka K.length kc) := (HM3.out.box.kept hgrow n1).cell 2
            have fV4 : w4.frozen? ⟨w.heap.size + 1, 2, none⟩ = false := (HM3.out.box.kept hgrow n1).frozen 2
            have HM5 := hide hm5
            refine hK.out _ _ trivial (fun _ => ?_)
            clear hK K9 hown hgrow hrow hm5 n1 hkn hvc
            try simp only [Act.put, List.setIfInBounds_toArray, List.set_cons_zero, List.set_cons_succ]
            refine takeD (i := 7) (v := ?v6) (some 21) rfl (by kernel_rfl) (by kernel_rfl) (by kernel_rfl) (fun _ _ _ h => h) (Or.inl ⟨by rfl, ?hy6⟩) (by trivial) (by rfl) ?rest6
            case hy6 => first | (intro w hSw; go_simp; done) | (intro w hSw; go_simp; with_reducible rfl)
            try simp only [Act.put, List.setIfInBounds_toArray, List.set_cons_zero, List.set_cons_succ]
            refine wpAnyH_ready (rs := [8]) (by kernel_rfl) (by simp) ?_
            refine AllReadyH.cons rfl (fun K9 hK => ?_) AllReadyH.nil
            go_simp
            refine hK.out _ _ trivial (fun _ => ?_)
            clear hK K9
            try simp only [Act.put, List.setIfInBounds_toArray, List.set_cons_zero, List.set_cons_succ]
            refine wpAnyH_done (by kernel_rfl) ?_ _
            go_wp2_with fail
            go_meet
            exact ⟨.slice va kn vc, HM5.out⟩
      case rest =>
        clear HM1 HKC
        obtain ⟨kv, hm4⟩ := hcut
        obtain ⟨kb, kc', hkv, _⟩ := hm4.ks.len
        obtain ⟨kn, hkn⟩ : ∃ kn, (K ++ [s]).length = kn := ⟨_, rfl⟩
        rw [hkn] at hkv
        subst hkv
        clear hkn
        have HM4 := hide hm4
        have HSK := hide (skipBlanks_calls wc R (oq + 1) d ao cap T hm4.rd (HT.out.fr hm4.fr) (by have := HH.out.2.2.1; omega))
        clear hm4
        go_wp2_with fail
        refine HSK.out.mono ?_
        rintro e w5 ⟨rfl, hr5, _, hf5⟩
        have hm5 := HM4.out.go hr5 hf5
        have HTK := hide (take_ok w5 R (blEnd T (oq + 1)) d 58 ao cap T hr5 (HT.out.fr hm5.fr) HH7.out HH8.out)
        have HM5 := hide hm5
        clear hr5 hf5 hm5 HSK HM4
        go_wp2_with fail
        refine HTK.out.mono ?_
        rintro e w6 ⟨rfl, hr6, hf6⟩
        have hm6 := HM5.out.go hr6 hf6
        have HVC : Hid (∀ W, Below w6.heap.size w6 W → Calls Tryz.prog 48 #[.pointer (some ⟨R, 0, none⟩)] W fun e w' => e = .returned (vagg (xk, xs, xa, xl)) ∧ AtJ W R (.slice ao T.length cap) oz d w') := fun W hW => HVL.out W _ _ HH9.out (by have := HH7.out; omega) (hr6.below hW) ((HT.out.fr hm6.fr).fr (Fr.of hW))
        have HM7 := hide hm6
        have HNX : Hid (∀ W lv', MidO w W R (.slice ao T.length cap) oz d (.slice kb kn kc') lv' (K ++ [s]) (K ++ [s]) (M ++ [(xk, xs, xa, xl)]) → ∃ (q : Nat) (K : List ByteArray) (M : List JC) (kv lv : Value) (rest : List OP), rest.length = n ∧ Ks = K ++ rest.map (·.s) ∧ Ms = M ++ rest.map (·.x) ∧ Chain T val q (decide (M.length = 0)) rest z ∧ q ≤ T.length ∧ K.length ≤ q ∧ M.length = K.length ∧ MidO w W R (.slice ao T.length cap) q d kv lv K K M) := fun W lv' h =>
          ⟨oz, K ++ [s], M ++ [(xk, xs, xa, xl)], _, lv', rest, HG.out, by rw [HKK.out]; simp, by rw [HMM.out]; simp, by
            rw [decide_eq_false (show ¬ (M ++ [(xk, xs, xa, xl)]).length = 0 by simp)]
            exact HCH.out, HQZ.out.2, by
            have := HKQ.out
            have := HQZ.out
            have := HQA.out
            simp
            omega, by simp [HMK.out], h⟩
        clear hr6 hf6 hm6 HTK HM5
        go_upto_region 7 with fail
        generalize w6 = w7 at *
        refine wp_region_held_drew (S := fun X : World => True) (by kernel_rfl) trivial (fun hHeld => ?_)
        have hdr : Below w7.heap.size w7 w7.drew := (Below.refl _ _).drew
        have HDR := hide hdr
        clear hdr
        refine takeD (i := 0) (v := ?v7) (some 26) rfl (by kernel_rfl) (by kernel_rfl) (by kernel_rfl) (fun _ _ _ h => h) (Or.inl ⟨by rfl, ?hy7⟩) (by trivial) (by rfl) ?rest7
        case hy7 => first | (intro w hSw; go_simp; done) | (intro w hSw; go_simp; with_reducible rfl)
        try simp only [Act.put, List.setIfInBounds_toArray, List.set_cons_zero, List.set_cons_succ]
        refine takeD (i := 2) (v := ?v8) (some 28) rfl (by kernel_rfl) (by kernel_rfl) (by kernel_rfl) (fun _ _ _ h => h) (Or.inl ⟨by rfl, ?hy8⟩) (by trivial) (by rfl) ?rest8
        case hy8 => first | (intro w hSw; go_simp; done) | (intro w hSw; go_simp; with_reducible rfl)
        try simp only [Act.put, List.setIfInBounds_toArray, List.set_cons_zero, List.set_cons_succ]
        refine wpAnyH_ready (rs := [1, 3]) (by kernel_rfl) (by simp) ?_
        refine AllReadyH.cons rfl (fun K9 hK => ?_) (AllReadyH.cons rfl (fun K9 hK => ?_) AllReadyH.nil)
        · have clv : w7.cell? ⟨w.heap.size + 1, 3, none⟩ = some (.slice la M.length lc) := HM7.out.box.cell 3
          go_simp
          refine hK.out _ _ trivial (fun _ => ?_)
          clear hK K9 clv
          try simp only [Act.put, List.setIfInBounds_toArray, List.set_cons_zero, List.set_cons_succ]
          refine wpAnyH_ready (rs := [3]) (by kernel_rfl) (by simp) ?_
          refine AllReadyH.cons rfl (fun K9 hK => ?_) AllReadyH.nil
          go_simp
          refine (HVC.out _ HDR.out).mono ?_
          rintro e w8 ⟨rfl, hr8, hf8⟩
          have HM8 := hide ((HM7.out.below HDR.out).go hr8 hf8)
          simp only [vagg]
          refine hK.out _ _ trivial (fun _ => ?_)
          clear hK K9 hr8 hf8
          try simp only [Act.put, List.setIfInBounds_toArray, List.set_cons_zero, List.set_cons_succ]
          refine wpAnyH_ready (rs := [4]) (by kernel_rfl) (by simp) ?_
          refine AllReadyH.cons rfl (fun K9 hK => ?_) AllReadyH.nil
          go_simp
          have hbl := bel w8 (.cells #[.int .i64 xk, .string xs, xa, xl] 27)
          have hbx := BoxC.new w8 27 #[.int .i64 xk, .string xs, xa, xl]
          have HM9 := hide (HM8.out.below hbl)
          refine hK.out _ _ trivial (fun _ => ?_)
          clear hK K9 hbl
          try simp only [Act.put, List.setIfInBounds_toArray, List.set_cons_zero, List.set_cons_succ]
          generalize hB : w8.heap.size = B at *
          generalize hw9 : w8.alloc (.cells #[.int .i64 xk, .string xs, xa, xl] 27) = w9 at *
          have HBX := hide hbx
          clear hbx hw9
          refine wpAnyH_ready (rs := [5]) (by kernel_rfl) (by simp) ?_
          refine AllReadyH.cons rfl (fun K9 hK => ?_) AllReadyH.nil
          refine wp_appV _ (.tmp 27) (.tmp 30) rfl (w.heap.size + 3) (.slice la M.length lc) M rfl HM9.out.vs B _ (xk, xs, xa, xl) rfl HBX.out HXO.out (by have := HML.out; omega) (by have := HM9.out.set.lt; omega) ?_
          intro lv' wa hown hgrow hrow
          obtain ⟨va', vn', vc', rfl⟩ := hown.slice
          have hm5 := HM9.out.putV hgrow hown
          have n1 : some (w.heap.size + 1) ≠ (.slice la M.length lc : Value).ownBlock := fun e => by have := (HM9.out.vs.lt _ e.symm).1; omega
          have lV4 : w.heap.size + 1 < wa.heap.size := (HM9.out.box.kept hgrow n1).lt
          have cV4 : wa.cell? ⟨w.heap.size + 1, 3, none⟩ = some (.slice la M.length lc) := (HM9.out.box.kept hgrow n1).cell 3
          have fV4 : wa.frozen? ⟨w.heap.size + 1, 3, none⟩ = false := (HM9.out.box.kept hgrow n1).frozen 3
          have HM5 := hide hm5
          refine hK.out _ _ trivial (fun _ => ?_)
          clear hK K9 hown hgrow hrow hm5 n1
          try simp only [Act.put, List.setIfInBounds_toArray, List.set_cons_zero, List.set_cons_succ]
          refine takeD (i := 6) (v := ?v9) (some 32) rfl (by kernel_rfl) (by kernel_rfl) (by kernel_rfl) (fun _ _ _ h => h) (Or.inl ⟨by rfl, ?hy9⟩) (by trivial) (by rfl) ?rest9
          case hy9 => first | (intro w hSw; go_simp; done) | (intro w hSw; go_simp; with_reducible rfl)
          try simp only [Act.put, List.setIfInBounds_toArray, List.set_cons_zero, List.set_cons_succ]
          refine wpAnyH_ready (rs := [7]) (by kernel_rfl) (by simp) ?_
          refine AllReadyH.cons rfl (fun K9 hK => ?_) AllReadyH.nil
          go_simp
          refine hK.out _ _ trivial (fun _ => ?_)
          clear hK K9
          try simp only [Act.put, List.setIfInBounds_toArray, List.set_cons_zero, List.set_cons_succ]
          refine wpAnyH_done (by kernel_rfl) ?_ _
          go_wp2
          go_roundg n
          case measure => omega
          case rel => exact HNX.out _ _ HM5.out
        · go_simp
          refine (HVC.out _ HDR.out).mono ?_
          rintro e w8 ⟨rfl, hr8, hf8⟩
          have HM8 := hide ((HM7.out.below HDR.out).go hr8 hf8)
          simp only [vagg]
          refine hK.out _ _ trivial (fun _ => ?_)
          clear hK K9 hr8 hf8
          try simp only [Act.put, List.setIfInBounds_toArray, List.set_cons_zero, List.set_cons_succ]
          refine wpAnyH_ready (rs := [1, 4]) (by kernel_rfl) (by simp) ?_
          refine AllReadyH.cons rfl (fun K9 hK => ?_) (AllReadyH.cons rfl (fun K9 hK => ?_) AllReadyH.nil)
          · have clv : w8.cell? ⟨w.heap.size + 1, 3, none⟩ = some (.slice la M.length lc) := HM8.out.box.cell 3
            go_simp
            refine hK.out _ _ trivial (fun _ => ?_)
            clear hK K9 clv
            try simp only [Act.put, List.setIfInBounds_toArray, List.set_cons_zero, List.set_cons_succ]
            refine wpAnyH_ready (rs := [4]) (by kernel_rfl) (by simp) ?_
            refine AllReadyH.cons rfl (fun K9 hK => ?_) AllReadyH.nil
            go_simp
            have hbl := bel w8 (.cells #[.int .i64 xk, .string xs, xa, xl] 27)
            have hbx := BoxC.new w8 27 #[.int .i64 xk, .string xs, xa, xl]
            have HM9 := hide (HM8.out.below hbl)
            refine hK.out _ _ trivial (fun _ => ?_)
            clear hK K9 hbl
            try simp only [Act.put, List.setIfInBounds_toArray, List.set_cons_zero, List.set_cons_succ]
            generalize hB : w8.heap.size = B at *
            generalize hw9 : w8.alloc (.cells #[.int .i64 xk, .string xs, xa, xl] 27) = w9 at *
            have HBX := hide hbx
            clear hbx hw9
            refine wpAnyH_ready (rs := [5]) (by kernel_rfl) (by simp) ?_
            refine AllReadyH.cons rfl (fun K9 hK => ?_) AllReadyH.nil
            refine wp_appV _ (.tmp 27) (.tmp 30) rfl (w.heap.size + 3) (.slice la M.length lc) M rfl HM9.out.vs B _ (xk, xs, xa, xl) rfl HBX.out HXO.out (by have := HML.out; omega) (by have := HM9.out.set.lt; omega) ?_
            intro lv' wa hown hgrow hrow
            obtain ⟨va', vn', vc', rfl⟩ := hown.slice
            have hm5 := HM9.out.putV hgrow hown
            have n1 : some (w.heap.size + 1) ≠ (.slice la M.length lc : Value).ownBlock := fun e => by have := (HM9.out.vs.lt _ e.symm).1; omega
            have lV4 : w.heap.size + 1 < wa.heap.size := (HM9.out.box.kept hgrow n1).lt
            have cV4 : wa.cell? ⟨w.heap.size + 1, 3, none⟩ = some (.slice la M.length lc) := (HM9.out.box.kept hgrow n1).cell 3
            have fV4 : wa.frozen? ⟨w.heap.size + 1, 3, none⟩ = false := (HM9.out.box.kept hgrow n1).frozen 3
            have HM5 := hide hm5
            refine hK.out _ _ trivial (fun _ => ?_)
            clear hK K9 hown hgrow hrow hm5 n1
            try simp only [Act.put, List.setIfInBounds_toArray, List.set_cons_zero, List.set_cons_succ]
            refine takeD (i := 6) (v := ?v10) (some 32) rfl (by kernel_rfl) (by kernel_rfl) (by kernel_rfl) (fun _ _ _ h => h) (Or.inl ⟨by rfl, ?hy10⟩) (by trivial) (by rfl) ?rest10
            case hy10 => first | (intro w hSw; go_simp; done) | (intro w hSw; go_simp; with_reducible rfl)
            try simp only [Act.put, List.setIfInBounds_toArray, List.set_cons_zero, List.set_cons_succ]
            refine wpAnyH_ready (rs := [7]) (by kernel_rfl) (by simp) ?_
            refine AllReadyH.cons rfl (fun K9 hK => ?_) AllReadyH.nil
            go_simp
            refine hK.out _ _ trivial (fun _ => ?_)
            clear hK K9
            try simp only [Act.put, List.setIfInBounds_toArray, List.set_cons_zero, List.set_cons_succ]
            refine wpAnyH_done (by kernel_rfl) ?_ _
            go_wp2
            go_roundg n
            case measure => omega
            case rel => exact HNX.out _ _ HM5.out
          · go_simp
            have hbl := bel w8 (.cells #[.int .i64 xk, .string xs, xa, xl] 27)
            have hbx := BoxC.new w8 27 #[.int .i64 xk, .string xs, xa, xl]
            have HM9 := hide (HM8.out.below hbl)
            refine hK.out _ _ trivial (fun _ => ?_)
            clear hK K9 hbl
            try simp only [Act.put, List.setIfInBounds_toArray, List.set_cons_zero, List.set_cons_succ]
            generalize hB : w8.heap.size = B at *
            generalize hw9 : w8.alloc (.cells #[.int .i64 xk, .string xs, xa, xl] 27) = w9 at *
            have HBX := hide hbx
            clear hbx hw9
            refine wpAnyH_ready (rs := [1]) (by kernel_rfl) (by simp) ?_
            refine AllReadyH.cons rfl (fun K9 hK => ?_) AllReadyH.nil
            have clv : w9.cell? ⟨w.heap.size + 1, 3, none⟩ = some (.slice la M.length lc) := HM9.out.box.cell 3
            go_simp
            refine hK.out _ _ trivial (fun _ => ?_)
            clear hK K9 clv
            try simp only [Act.put, List.setIfInBounds_toArray, List.set_cons_zero, List.set_cons_succ]
            refine wpAnyH_ready (rs := [5]) (by kernel_rfl) (by simp) ?_
            refine AllReadyH.cons rfl (fun K9 hK => ?_) AllReadyH.nil
            refine wp_appV _ (.tmp 27) (.tmp 30) rfl (w.heap.size + 3) (.slice la M.length lc) M rfl HM9.out.vs B _ (xk, xs, xa, xl) rfl HBX.out HXO.out (by have := HML.out; omega) (by have := HM9.out.set.lt; omega) ?_
            intro lv' wa hown hgrow hrow
            obtain ⟨va', vn', vc', rfl⟩ := hown.slice
            have hm5 := HM9.out.putV hgrow hown
            have n1 : some (w.heap.size + 1) ≠ (.slice la M.length lc : Value).ownBlock := fun e => by have := (HM9.out.vs.lt _ e.symm).1; omega
            have lV4 : w.heap.size + 1 < wa.heap.size := (HM9.out.box.kept hgrow n1).lt
            have cV4 : wa.cell? ⟨w.heap.size + 1, 3, none⟩ = some (.slice la M.length lc) := (HM9.out.box.kept hgrow n1).cell 3
            have fV4 : wa.frozen? ⟨w.heap.size + 1, 3, none⟩ = false := (HM9.out.box.kept hgrow n1).frozen 3
            have HM5 := hide hm5
            refine hK.out _ _ trivial (fun _ => ?_)
            clear hK K9 hown hgrow hrow hm5 n1
            try simp only [Act.put, List.setIfInBounds_toArray, List.set_cons_zero, List.set_cons_succ]
            refine takeD (i := 6) (v := ?v11) (some 32) rfl (by kernel_rfl) (by kernel_rfl) (by kernel_rfl) (fun _ _ _ h => h) (Or.inl ⟨by rfl, ?hy11⟩) (by trivial) (by rfl) ?rest11
            case hy11 => first | (intro w hSw; go_simp; done) | (intro w hSw; go_simp; with_reducible rfl)
            try simp only [Act.put, List.setIfInBounds_toArray, List.set_cons_zero, List.set_cons_succ]
            refine wpAnyH_ready (rs := [7]) (by kernel_rfl) (by simp) ?_
            refine AllReadyH.cons rfl (fun K9 hK => ?_) AllReadyH.nil
            go_simp
            refine hK.out _ _ trivial (fun _ => ?_)
            clear hK K9
            try simp only [Act.put, List.setIfInBounds_toArray, List.set_cons_zero, List.set_cons_succ]
            refine wpAnyH_done (by kernel_rfl) ?_ _
            go_wp2
            go_roundg n
            case measure => omega
            case rel => exact HNX.out _ _ HM5.out

end Go.Proofs.YtbdpmpepmjpadaaGreatDoor

namespace Go.Proofs.YtbdpmpepmjpadaaGreatDoor
set_option linter.unusedVariables false
set_option linter.unusedSimpArgs false
set_option maxRecDepth 100000
open Go Go.RowKit Go.Shelf Go.Lib

/-- A tree that was read: it lies in new memory. -/
def TreeJ (T0 : JT) (z : Nat) (w : World) (R : Nat) (sv : Value) (d : Nat) (e : Ending) (w' : World) : Prop :=
  ∃ x : JC, e = .returned (vagg x) ∧ TIn w' (fun b => w.heap.size ≤ b) x T0 ∧ AtJ w R sv z d w'
def flatT (x : JC) : JT := .mk x.1 x.2.1 [] []
def Flat (x : JC) : Prop := x.2.2.1 = .slice none 0 0 ∧ x.2.2.2 = .slice none 0 0
theorem flat_in (W : World) (S : Nat → Prop) {x : JC} (h : Flat x) : TIn W S x (flatT x) := by
  obtain ⟨k, s, kv, lv⟩ := x
  obtain ⟨h1, h2⟩ := h
  simp only at h1 h2
  subst h1 h2
  exact .mk k s (.slice none 0 0) none 0 [] [] (fun _ => (0, ⟨#[]⟩, .slice none 0 0, .slice none 0 0)) ⟨none, 0, rfl, fun j hj => by simp at hj⟩ (fun i hi => by simp at hi) (fun i hi => by simp at hi) (fun i hi => by simp at hi)
theorem own_strs {n : Nat} {W : World} {v : Value} {K : List ByteArray} (h : OwnS n W v K) : StrsS W (fun b => n ≤ b) v K := by
  obtain ⟨ao, c, rfl, _⟩ := h.len
  refine ⟨ao, c, rfl, fun j hj => ?_⟩
  obtain ⟨g, rfl, hx⟩ := h.cell (List.getElem?_eq_getElem hj)
  refine ⟨g, 0, rfl, (h.lt g rfl).1, ?_⟩
  rw [Nat.zero_add, hx]
  simp [nthS, hj]
theorem own_tree {n : Nat} {W : World} {kv lv : Value} {K : List ByteArray} {M : List JC} (k : Int) (s : ByteArray) (hk : StrsS W (fun b => n ≤ b) kv K) (hv : OwnV n W lv M) (hM : ∀ x ∈ M, Flat x) : TIn W (fun b => n ≤ b) (k, s, kv, lv) (.mk k s K (M.map flatT)) := by
  obtain ⟨la, lc, rfl, _⟩ := hv.len
  have hl : (M.map flatT).length = M.length := by simp
  have hex : ∀ i, i < M.length → M[i]? = some (M[i]?.getD (0, ⟨#[]⟩, .slice none 0 0, .slice none 0 0)) := fun i h => by
    rw [List.getElem?_eq_getElem h]; rfl
  have hfl : ∀ i, i < M.length → Flat (M[i]?.getD (0, ⟨#[]⟩, .slice none 0 0, .slice none 0 0)) := fun i h => hM _ (List.mem_of_getElem? (hex i h))
  rw [← hl]
  refine .mk k s kv la lc K (M.map flatT) (fun i => M[i]?.getD (0, ⟨#[]⟩, .slice none 0 0, .slice none 0 0)) hk (fun i hi => ?_) (fun i hi => ?_) (fun i hi => ?_)
  · rw [hl] at hi
    obtain ⟨g, rfl, hc⟩ := hv.cell (hex i hi)
    refine ⟨g, 0, rfl, (hv.lt g rfl).1, fun r hr => ?_⟩
    rw [Nat.zero_add]
    exact hc r hr
  · rw [hl] at hi
    obtain ⟨h1, h2⟩ := hfl i hi
    exact ⟨⟨_, _, _, h1⟩, ⟨_, _, _, h2⟩⟩
  · have hi' : i < M.length := by rw [hl] at hi; exact hi
    have h := flat_in W (fun b => n ≤ b) (hfl i hi')
    have e : (M.map flatT)[i] = flatT (M[i]?.getD (0, ⟨#[]⟩, .slice none 0 0, .slice none 0 0)) := by
      rw [List.getElem_map, List.getElem?_eq_getElem hi']
      rfl
    rw [e]
    exact h

set_option maxHeartbeats 4000000 in
theorem nested_obj (w : World) (R p d : Nat) (ao : Option Addr) (cap : Nat) (T : List Nat) (T0 : JT) (z : Nat) (hr : RdJ w R (.slice ao T.length cap) p d) (hT : TxJ w R ao cap T) (hd : d < 64) (hp : p < T.length)
    (hA : ∀ W, RdJ W R (.slice ao T.length cap) (p + 1) (d + 1) → TxJ W R ao cap T → Calls Tryz.prog 69 #[.pointer (some ⟨R, 0, none⟩)] W (TreeJ T0 z W R (.slice ao T.length cap) (d + 1))) :
    Calls Tryz.prog 67 #[.pointer (some ⟨R, 0, none⟩), .func (.func 69) #[.pointer (some ⟨R, 0, none⟩)] #[]] w (TreeJ T0 z w R (.slice ao T.length cap) d) := by
  have hRw := hr.lt
  have hb0 := bel w (.cells jv0 27)
  have hx0 := BoxC.new w 27 jv0
  unfold jv0 at hb0 hx0
  have hr0 := hr.below hb0
  have hT0 := hT.fr (Fr.of hb0)
  generalize hw0 : w.alloc (.cells #[.int .i64 0, .string ⟨#[]⟩, .slice none 0 0, .slice none 0 0] 27) = w0 at *
  obtain ⟨p1, hp1⟩ : ∃ p1, p + 1 = p1 := ⟨_, rfl⟩
  obtain ⟨d1, hd1⟩ : ∃ d1, d + 1 = d1 := ⟨_, rfl⟩
  rw [hp1, hd1] at hA
  have e1 : (p : Int) + 1 = (p1 : Int) := by omega
  have e2 : (d : Int) + 1 = (d1 : Int) := by omega
  have e3 : (d1 : Int) - 1 = (d : Int) := by omega
  have g1 : (p1 : Int) ≤ 1000000000 := by have := hT.len; omega
  have g2 : (d1 : Int) ≤ 1000000000 := by omega
  have g3 : ((d : Int) == 64) = false := beq_eq_false_iff_ne.2 (by omega)
  have c1 : w0.cell? ⟨R, 1, none⟩ = some (.int .i64 (p : Int)) := hr0.cell 1
  have c2 : w0.cell? ⟨R, 2, none⟩ = some (.int .i64 (d : Int)) := hr0.cell 2
  have f1 := hr0.frozen 1
  have f2 := hr0.frozen 2
  have lR := hr0.lt
  have hra : RdJ ((w0.setCell ⟨R, 1, none⟩ (.int .i64 (p1 : Int))).setCell ⟨R, 2, none⟩ (.int .i64 (d1 : Int))) R (.slice ao T.length cap) p1 d1 := (BoxC.set hr0 1 _).set 2 _
  have hfa : Fr R none w0 ((w0.setCell ⟨R, 1, none⟩ (.int .i64 (p1 : Int))).setCell ⟨R, 2, none⟩ (.int .i64 (d1 : Int))) := ((Fr.refl R none w0).set 1 _).set 2 _
  have hxa := (hx0.fr hfa (by omega) (by simp))
  have HCA := hide (hA _ hra (hT0.fr hfa))
  have HW0 := hide hw0
  have HFA := hide (Fr.after hb0 hfa)
  have HXA := hide hxa
  have HRW := hide hRw
  clear hr hT hd hp hA hb0 hx0 hr0 hT0 hw0 hp1 hd1 hra hfa hxa hRw
  go_enter Tryz.func67, Tryz.ntmps67
  go_upto_region 1 with fail
  rw [HW0.out]
  clear HW0
  go_wp2_with fail
  refine HCA.out.mono ?_
  rintro e w1 ⟨⟨xk, xs, xK, xL⟩, rfl, hT0, hr1, hf⟩
  obtain ⟨h4, h5⟩ := hT0.sl
  simp only at h4 h5
  obtain ⟨ua, un, uc, rfl⟩ := h4
  obtain ⟨va, vn, vc, rfl⟩ := h5
  unfold vagg
  simp only
  have hx1 := HXA.out.fr hf (by have := HRW.out; omega) (by simp)
  have hf1 := HFA.out.trans hf (.inl rfl)
  have hb2 := bel w1 (.cells #[.int .i64 xk, .string xs, .slice ua un uc, .slice va vn vc] 27)
  have hv2 := BoxC.new w1 27 #[.int .i64 xk, .string xs, .slice ua un uc, .slice va vn vc]
  have hT2 := hT0.bel hb2
  have hsz0 : ((w0.setCell ⟨R, 1, none⟩ (.int .i64 (p1 : Int))).setCell ⟨R, 2, none⟩ (.int .i64 (d1 : Int))).heap.size = w0.heap.size := by rw [World.size_setCell, World.size_setCell]
  have hlt0 : w.heap.size < ((w0.setCell ⟨R, 1, none⟩ (.int .i64 (p1 : Int))).setCell ⟨R, 2, none⟩ (.int .i64 (d1 : Int))).heap.size := HXA.out.lt
  generalize ((w0.setCell ⟨R, 1, none⟩ (.int .i64 (p1 : Int))).setCell ⟨R, 2, none⟩ (.int .i64 (d1 : Int))).heap.size = n0 at *
  have hr2 := hr1.below hb2
  have hf2 := hf1.then hb2
  have hx2 := hx1.below hb2
  have hrw := HRW.out
  generalize hB : w1.heap.size = B at *
  generalize hw2 : w1.alloc (.cells #[.int .i64 xk, .string xs, .slice ua un uc, .slice va vn vc] 27) = w2 at *
  have c2 : w2.cell? ⟨R, 2, none⟩ = some (.int .i64 (d1 : Int)) := hr2.cell 2
  have f2 := hr2.frozen 2
  have lR2 := hr2.lt
  have hBw := hx1.lt
  rw [hB] at hBw
  have hr3 : RdJ (w2.setCell ⟨R, 2, none⟩ (.int .i64 (d : Int))) R (.slice ao T.length cap) z d := BoxC.set hr2 2 _
  have hf3 : Fr R none w (w2.setCell ⟨R, 2, none⟩ (.int .i64 (d : Int))) := hf2.set 2 _
  have hx3 := hx2.other (show w.heap.size ≠ R by omega) 2 (.int .i64 (d : Int))
  have hv3 := hv2.other (show B ≠ R by omega) 2 (.int .i64 (d : Int))
  have HW2 := hide hw2
  have HBB := hide hB
  have HR3 := hide hr3
  have HF3 := hide hf3
  have HX3 := hide hx3
  have HT2 := hide hT2
  have HLT0 := hide hlt0
  have hne1 : ¬ R = w.heap.size := by omega
  have hne2 : ¬ R = B := by omega
  have hne3 : ¬ w.heap.size = B := by omega
  have v0 := hv3.cell 0
  have v1 := hv3.cell 1
  have v2 := hv3.cell 2
  have v3 := hv3.cell 3
  have lV := hv3.lt
  have x0 := hx3.cell 0
  have x1 := hx3.cell 1
  have x2 := hx3.cell 2
  have x3 := hx3.cell 3
  have y0 := hx3.frozen 0
  have y1 := hx3.frozen 1
  have y2 := hx3.frozen 2
  have y3 := hx3.frozen 3
  have lX := hx3.lt
  simp only [List.getElem?_toArray, List.getElem?_cons_zero, List.getElem?_cons_succ, Nat.reduceAdd] at v0 v1 v2 v3 x0 x1 x2 x3
  clear hT0 hT2 hlt0 hsz0 hr1 hf hx1 hf1 hb2 hv2 hr2 hf2 hx2 hw2 hr3 hf3 hx3 hv3 hB hrw hBw
  go_upto_region 6 with fail
  rw [HW2.out, HBB.out]
  clear HW2 HBB
  go_wp2
  refine bodyPost_ret (results_jv rfl rfl (resJ_v HX3.out (.int .i64 xk) (.string xs) (.slice ua un uc) (.slice va vn vc))) rfl ?_
  refine ⟨(xk, xs, .slice ua un uc, .slice va vn vc), rfl, HT2.out.keep fun b hs _ => ?_, put4 (t := 0) (cs := #[]) (Nat.le_refl _) HRW.out HR3.out HF3.out _ _ _ _⟩
  have hs' : n0 ≤ b := hs
  have h1 := HLT0.out
  have h2 := HRW.out
  refine ⟨by show w.heap.size ≤ b; omega, ?_⟩
  have hne : b ≠ w.heap.size := by omega
  rw [Below.heap_setCell _ ⟨w.heap.size, 3, none⟩ _ b hne, Below.heap_setCell _ ⟨w.heap.size, 2, none⟩ _ b hne, Below.heap_setCell _ ⟨w.heap.size, 1, none⟩ _ b hne, Below.heap_setCell _ ⟨w.heap.size, 0, none⟩ _ b hne, Below.heap_setCell _ ⟨R, 2, none⟩ _ b (by show b ≠ R; omega)]

set_option maxHeartbeats 4000000 in
theorem value_obj (w : World) (R q d : Nat) (ao : Option Addr) (cap : Nat) (T : List Nat) (T0 : JT) (z : Nat) (hr : RdJ w R (.slice ao T.length cap) q d) (hT : TxJ w R ao cap T) (hq : q ≤ T.length) (hlt : blEnd T q < T.length) (hc : nth T (blEnd T q) = 123) (hd : d < 64)
    (hA : ∀ W, RdJ W R (.slice ao T.length cap) (blEnd T q + 1) (d + 1) → TxJ W R ao cap T → Calls Tryz.prog 69 #[.pointer (some ⟨R, 0, none⟩)] W (TreeJ T0 z W R (.slice ao T.length cap) (d + 1))) :
    Calls Tryz.prog 48 #[.pointer (some ⟨R, 0, none⟩)] w (TreeJ T0 z w R (.slice ao T.length cap) d) := by
  have hmf : ∀ (fn : Fn) (first cap : Array Value) (w : World), (Instr.makeFunc fn first cap).run Tryz.prog w = .ok (.func fn first cap) w := fun _ _ _ _ => rfl
  have hRw := hr.lt
  have hb0 := bel w (.cells jv0 27)
  have hx0 := BoxC.new w 27 jv0
  unfold jv0 at hb0 hx0
  have hr0 := hr.below hb0
  have hT0 := hT.fr (Fr.of hb0)
  generalize hw0 : w.alloc (.cells #[.int .i64 0, .string ⟨#[]⟩, .slice none 0 0, .slice none 0 0] 27) = w0 at *
  have HS := hide (skipBlanks_calls w0 R q d ao cap T hr0 hT0 hq)
  generalize blEnd T q = b at *
  have HW0 := hide hw0
  have HB0 := hide hb0
  have HT0 := hide hT0
  have HX0 := hide hx0
  have HRW := hide hRw
  have HLT := hide hlt
  have HD := hide hd
  have HA := hide hA
  have HCC := hide hc
  clear hr hT hq hb0 hx0 hr0 hT0 hw0 hRw hlt hd hA hc
  go_enter Tryz.func48, Tryz.ntmps48
  go_wp2_with fail
  rw [HW0.out]
  clear HW0
  refine HS.out.mono ?_
  rintro e w1 ⟨rfl, hr1, _, hf1⟩
  have hx1 := HX0.out.fr hf1 (by have := HRW.out; omega) (by simp)
  have HT1 := hide (HT0.out.fr hf1)
  have HF1 := hide (Fr.after HB0.out hf1)
  have HR1 := hide hr1
  have HX1 := hide hx1
  clear hf1 hx1 HS HT0 HX0 HB0 hr1
  have HN := hide (next_some w1 R b d ao cap T HR1.out HT1.out HLT.out)
  rw [HCC.out] at HN
  go_wp2_with fail
  refine HN.out.mono ?_
  rintro e w2 ⟨rfl, hB⟩
  have HX2 := hide (HX1.out.below hB)
  have HF2 := hide (HF1.out.then hB)
  have HR2 := hide (HR1.out.below hB)
  have HT2 := hide (HT1.out.fr (Fr.of hB))
  clear hB HX1 HR1 HT1 HF1 HN
  have HC := hide (nested_obj w2 R b d ao cap T T0 z HR2.out HT2.out HD.out HLT.out HA.out)
  go_wp2_with fail
  refine HC.out.mono ?_
  rintro e w3 ⟨⟨xk, xs, xK, xL⟩, rfl, hT3, hr3, hf3⟩
  obtain ⟨h4, h5⟩ := hT3.sl
  simp only at h4 h5
  obtain ⟨ua, un, uc, rfl⟩ := h4
  obtain ⟨va, vn, vc, rfl⟩ := h5
  unfold vagg
  simp only
  have hx3 := HX2.out.fr hf3 (by have := HRW.out; omega) (by simp)
  have HF3 := hide (HF2.out.trans hf3 (.inl rfl))
  have HR3 := hide hr3
  have HX3 := hide hx3
  have HT3 := hide hT3
  have HLT0 := hide HX2.out.lt
  have x0 : w3.cell? ⟨w.heap.size, 0, none⟩ = some (.int .i64 0) := hx3.cell 0
  have x1 : w3.cell? ⟨w.heap.size, 1, none⟩ = some (.string ⟨#[]⟩) := hx3.cell 1
  have x2 : w3.cell? ⟨w.heap.size, 2, none⟩ = some (.slice none 0 0) := hx3.cell 2
  have x3 : w3.cell? ⟨w.heap.size, 3, none⟩ = some (.slice none 0 0) := hx3.cell 3
  have y0 := hx3.frozen 0
  have y1 := hx3.frozen 1
  have y2 := hx3.frozen 2
  have y3 := hx3.frozen 3
  have lX := hx3.lt
  clear hr3 hf3 hx3 HX2 HF2 HR2 HT2 hT3
  go_wp2
  refine bodyPost_ret (results_jv rfl rfl (resJ_v HX3.out (.int .i64 xk) (.string xs) (.slice ua un uc) (.slice va vn vc))) rfl ?_
  refine ⟨(xk, xs, .slice ua un uc, .slice va vn vc), rfl, HT3.out.keep fun b hs _ => ?_, put4 (t := 0) (cs := #[]) (Nat.le_refl _) HRW.out HR3.out HF3.out _ _ _ _⟩
  have hs' : w2.heap.size ≤ b := hs
  have h1 := HLT0.out
  refine ⟨by show w.heap.size ≤ b; omega, ?_⟩
  have hne : b ≠ w.heap.size := by omega
  rw [Below.heap_setCell _ ⟨w.heap.size, 3, none⟩ _ b hne, Below.heap_setCell _ ⟨w.heap.size, 2, none⟩ _ b hne, Below.heap_setCell _ ⟨w.heap.size, 1, none⟩ _ b hne, Below.heap_setCell _ ⟨w.heap.size, 0, none⟩ _ b hne]

set_option maxHeartbeats 4000000 in
theorem value_str (w : World) (R q d : Nat) (ao : Option Addr) (cap : Nat) (T : List Nat) (y : Nat) (hr : RdJ w R (.slice ao T.length cap) q d) (hT : TxJ w R ao cap T) (hq : q ≤ T.length) (hlt : blEnd T q < T.length) (hc : nth T (blEnd T q) = 34) (hA : blEnd T q + 1 ≤ y ∧ y < T.length ∧ nth T y = 34 ∧ ∀ j, blEnd T q + 1 ≤ j → j < y → 32 ≤ nth T j ∧ nth T j ≠ 34 ∧ nth T j ≠ 92) :
    Calls Tryz.prog 48 #[.pointer (some ⟨R, 0, none⟩)] w (ValJ (.ok (4, strOf (midT T (blEnd T q + 1) y), .slice none 0 0, .slice none 0 0) (y + 1)) w R (.slice ao T.length cap) d) := by
  have hmf : ∀ (fn : Fn) (first cap : Array Value) (w : World), (Instr.makeFunc fn first cap).run Tryz.prog w = .ok (.func fn first cap) w := fun _ _ _ _ => rfl
  have hRw := hr.lt
  have hb0 := bel w (.cells jv0 27)
  have hx0 := BoxC.new w 27 jv0
  unfold jv0 at hb0 hx0
  have hr0 := hr.below hb0
  have hT0 := hT.fr (Fr.of hb0)
  generalize hw0 : w.alloc (.cells #[.int .i64 0, .string ⟨#[]⟩, .slice none 0 0, .slice none 0 0] 27) = w0 at *
  have HS := hide (skipBlanks_calls w0 R q d ao cap T hr0 hT0 hq)
  generalize blEnd T q = b at *
  have HW0 := hide hw0
  have HB0 := hide hb0
  have HT0 := hide hT0
  have HX0 := hide hx0
  have HRW := hide hRw
  have HLT := hide hlt
  have HA := hide hA
  have HCC := hide hc
  clear hr hT hq hb0 hx0 hr0 hT0 hw0 hRw hlt hA hc
  go_enter Tryz.func48, Tryz.ntmps48
  go_wp2_with fail
  rw [HW0.out]
  clear HW0
  refine HS.out.mono ?_
  rintro e w1 ⟨rfl, hr1, _, hf1⟩
  have hx1 := HX0.out.fr hf1 (by have := HRW.out; omega) (by simp)
  have HT1 := hide (HT0.out.fr hf1)
  have HF1 := hide (Fr.after HB0.out hf1)
  have HR1 := hide hr1
  have HX1 := hide hx1
  clear hf1 hx1 HS HT0 HX0 HB0 hr1
  have HN := hide (next_some w1 R b d ao cap T HR1.out HT1.out HLT.out)
  rw [HCC.out] at HN
  go_wp2_with fail
  refine HN.out.mono ?_
  rintro e w2 ⟨rfl, hB⟩
  have HX2 := hide (HX1.out.below hB)
  have HF2 := hide (HF1.out.then hB)
  have HR2 := hide (HR1.out.below hB)
  have HT2 := hide (HT1.out.fr (Fr.of hB))
  clear hB HX1 HR1 HT1 HF1 HN
  obtain ⟨k1, k2, k3, k4⟩ := HA.out
  have HC := hide (quoted_ok w2 R b y d ao cap T HR2.out HT2.out HCC.out k1 k2 k3 k4)
  clear k1 k2 k3 k4
  generalize strOf (midT T (b + 1) y) = st at *
  go_wp2_with fail
  refine HC.out.mono ?_
  rintro e w3 ⟨rfl, hr3, hf3⟩
  have hx3 := HX2.out.fr hf3 (by have := HRW.out; omega) (by simp)
  have HF3 := hide (HF2.out.trans hf3 (.inl rfl))
  have HR3 := hide hr3
  have HX3 := hide hx3
  have x0 : w3.cell? ⟨w.heap.size, 0, none⟩ = some (.int .i64 0) := hx3.cell 0
  have x1 : w3.cell? ⟨w.heap.size, 1, none⟩ = some (.string ⟨#[]⟩) := hx3.cell 1
  have x2 : w3.cell? ⟨w.heap.size, 2, none⟩ = some (.slice none 0 0) := hx3.cell 2
  have x3 : w3.cell? ⟨w.heap.size, 3, none⟩ = some (.slice none 0 0) := hx3.cell 3
  have y0 := hx3.frozen 0
  have y1 := hx3.frozen 1
  have y2 := hx3.frozen 2
  have y3 := hx3.frozen 3
  have lX := hx3.lt
  clear hr3 hf3 hx3 HX2 HF2 HR2 HT2
  go_wp2
  refine bodyPost_ret (results_jv rfl rfl (resJ_v HX3.out (.int .i64 4) (.string st) (.slice none 0 0) (.slice none 0 0))) rfl ?_
  exact ⟨rfl, put4 (t := 0) (cs := #[]) (Nat.le_refl _) HRW.out HR3.out HF3.out _ _ _ _⟩

end Go.Proofs.YtbdpmpepmjpadaaGreatDoor

namespace Go.Proofs.YtbdpmpepmjpadaaGreatDoor
set_option linter.unusedVariables false
set_option linter.unusedSimpArgs false
set_option maxRecDepth 100000
open Go Go.RowKit Go.Shelf Go.Lib

def numT (n : Int) : JT := .mk 3 (strOf (itoaT n)) [] []
theorem clJ_num (n : Int) : clJ (numT n) = numT n := by
  unfold numT
  rw [clJ_eq]
  simp [sP, kP, lP, clJs]
/-- Two pairs in a new block. -/
theorem pairs_two {W : World} {B : Nat} {S : Nat → Prop} {k1 k2 : ByteArray} {x y : JC} {A C : JT} (hb : BoxC W B 85 (pair5 k1 x ++ pair5 k2 y).toArray) (hx : TIn W S x A) (hy : TIn W S y C) (h1 : LtT A) (h2 : LtT C) :
    PairsT W S (.slice (some ⟨B, 0, none⟩) 2 2) [k1, k2] (fun i => if i = 0 then x else y) [A, C] := by
  refine ⟨some ⟨B, 0, none⟩, 2, rfl, rfl, fun i hi => ?_⟩
  match i, hi with
  | 0, _ =>
    refine ⟨B, 0, A, rfl, fun r hr => ?_, rfl, hx, h1⟩
    have := hb.cell r
    rw [show 0 + (0 * 5 + r) = r by omega, this, List.getElem?_toArray]
    exact List.getElem?_append_left (by simpa [pair5] using hr)
  | 1, _ =>
    refine ⟨B, 0, C, rfl, fun r hr => ?_, rfl, hy, h2⟩
    have := hb.cell (5 + r)
    rw [show 0 + (1 * 5 + r) = 5 + r by omega, this, List.getElem?_toArray, List.getElem?_append_right (by simp [pair5])]
    simp [pair5, nthS]
/-- A tree that is answered, in new memory. -/
def NewT (T : JT) (w : World) (e : Ending) (w' : World) : Prop := ∃ y : JC, e = .returned (vagg y) ∧ Below w.heap.size w w' ∧ TIn w' (fun b => w.heap.size ≤ b) y T
theorem num_in (W : World) (S : Nat → Prop) (n : Int) : TIn W S (nC (strOf (itoaT n))) (numT n) := flat_in W S (x := nC (strOf (itoaT n))) ⟨rfl, rfl⟩

end Go.Proofs.YtbdpmpepmjpadaaGreatDoor

namespace Go.Proofs.YtbdpmpepmjpadaaGreatDoor
set_option linter.unusedVariables false
set_option linter.unusedSimpArgs false
set_option maxRecDepth 100000
open Go Go.RowKit Go.Shelf Go.Lib

end Go.Proofs.YtbdpmpepmjpadaaGreatDoor

namespace Go.Proofs.YtbdpmpepmjpadaaGreatDoor
set_option linter.unusedVariables false
set_option linter.unusedSimpArgs false
set_option maxRecDepth 100000
open Go Go.RowKit Go.Shelf Go.Lib

set_option maxHeartbeats 4000000 in
theorem parse_tree (w : World) (ao : Option Addr) (cap : Nat) (T : List Nat) (N : Nat) (T0 : JT) (z : Nat) (h : Byts w (.slice ao T.length cap) T) (hU : Utf8Tabs 0 1 w) (h1 : ∀ k, k < N → posL T k < T.length) (h2 : posL T N = T.length) (hv : ∀ k, k < N → runeAt T (posL T k) ≠ -1) (hlen : T.length ≤ 1000000) (hcap : T.length ≤ cap)
    (hb : 0 < T.length) (hval : ∀ W R, RdJ W R (.slice ao T.length cap) 0 0 → TxJ W R ao cap T → Calls Tryz.prog 48 #[.pointer (some ⟨R, 0, none⟩)] W (TreeJ T0 z W R (.slice ao T.length cap) 0)) (hz : z ≤ T.length) (hz2 : blEnd T z = T.length) :
    Calls Tryz.prog 23 #[.slice ao T.length cap] w fun e w' => (∃ x : JC, e = .returned (.tuple #[vagg x, .int .i64 0, .int .i64 0]) ∧ TIn w' (fun b => w.heap.size ≤ b) x T0) ∧ Below w.heap.size w w' := by
  have hmf : ∀ (fn : Fn) (first cap : Array Value) (w : World), (Instr.makeFunc fn first cap).run Tryz.prog w = .ok (.func fn first cap) w := fun _ _ _ _ => rfl
  have hb0 : Below w.heap.size w (((w.alloc (.cells jv0 27)).alloc (.cells #[.int .i64 0] 3)).alloc (.cells #[.int .i64 0] 66)) := ((bel w _).alloc (by simp) _).alloc (by simp; omega) _
  have hv0 := ((BoxC.new w 27 jv0).alloc (.cells #[.int .i64 0] 3)).alloc (.cells #[.int .i64 0] 66)
  have hp0 := (BoxC.new (w.alloc (.cells jv0 27)) 3 #[.int .i64 0]).alloc (.cells #[.int .i64 0] 66)
  have he0 := BoxC.new ((w.alloc (.cells jv0 27)).alloc (.cells #[.int .i64 0] 3)) 66 #[.int .i64 0]
  rw [World.size_alloc] at hp0
  rw [World.size_alloc, World.size_alloc] at he0
  unfold jv0 at hb0 hv0 hp0 he0
  have hR0 : ResJ _ w.heap.size (.int .i64 0) (.string ⟨#[]⟩) (.slice none 0 0) (.slice none 0 0) (.int .i64 0) (.int .i64 0) := ⟨hv0, hp0, he0⟩
  have hs0 : (((w.alloc (.cells #[.int .i64 0, .string ⟨#[]⟩, .slice none 0 0, .slice none 0 0] 27)).alloc (.cells #[.int .i64 0] 3)).alloc (.cells #[.int .i64 0] 66)).heap.size = w.heap.size + 3 := by simp
  generalize hw0 : ((w.alloc (.cells #[.int .i64 0, .string ⟨#[]⟩, .slice none 0 0, .slice none 0 0] 27)).alloc (.cells #[.int .i64 0] 3)).alloc (.cells #[.int .i64 0] 66) = w0 at *
  have HVC := hide (valid_calls w0 ao cap T N (h.below hb0) (Utf8Tabs_below hU hb0) h1 h2 (by omega) hcap)
  have HR0 := hide hR0
  have HB0 := hide hb0
  have HS0 := hide hs0
  have HW0 := hide hw0
  have HH := hide h
  have HV := hide hv
  have HVT := hide hval
  have HZ := hide (And.intro hz hz2)
  have HLN := hide hlen
  have HCP := hide hcap
  have HBB := hide hb
  clear hb0 hv0 hp0 he0 hR0 hs0 hw0 h hU h1 h2 hv hlen hcap hb hval hz hz2
  go_enter_defers Tryz.func23, Tryz.ntmps23
  go_wp2_with fail
  rw [HW0.out]
  clear HW0
  refine HVC.out.mono ?_
  rintro e w1 ⟨at', er, rfl, hTold, hB1⟩
  have ht : at' = 0 ∧ er = 0 := by
    rcases hTold with ⟨k, hk, _, hx, _⟩ | ⟨_, ha, he⟩
    · exact absurd hx (HV.out k hk)
    · exact ⟨ha, he⟩
  obtain ⟨rfl, rfl⟩ := ht
  have hB1' := hB1
  have hR1 := (⟨HR0.out.v.below hB1, HR0.out.p.below hB1, HR0.out.e.below hB1⟩ : ResJ w1 w.heap.size _ _ _ _ _ _)
  have hb2 := bel w1 (.cells #[.slice ao T.length cap, .int .i64 0, .int .i64 0] 101)
  have hr2 : RdJ (w1.alloc (.cells #[.slice ao T.length cap, .int .i64 0, .int .i64 0] 101)) w1.heap.size (.slice ao T.length cap) 0 0 := BoxC.new w1 101 #[.slice ao T.length cap, .int .i64 0, .int .i64 0]
  have hR2 := (⟨hR1.v.below hb2, hR1.p.below hb2, hR1.e.below hb2⟩ : ResJ (w1.alloc (.cells #[.slice ao T.length cap, .int .i64 0, .int .i64 0] 101)) w.heap.size _ _ _ _ _ _)
  have hB2 : Below w.heap.size w (w1.alloc (.cells #[.slice ao T.length cap, .int .i64 0, .int .i64 0] 101)) := (HB0.out.trans (hB1.mono HB0.out.size)).trans (hb2.mono (Nat.le_trans HB0.out.size hB1.size))
  have hlt : w.heap.size + 1 + 1 < w1.heap.size := hR1.e.lt
  have hT2 : TxJ (w1.alloc (.cells #[.slice ao T.length cap, .int .i64 0, .int .i64 0] 101)) w1.heap.size ao cap T := by
    refine ⟨HH.out.below hB2, fun a e => ?_, HLN.out, HCP.out⟩
    obtain ⟨ao', c', e', _, hx⟩ := HH.out
    cases e'
    have hpos := HBB.out
    obtain ⟨b, off, e2, hx⟩ := hx 0 (by omega)
    rw [e] at e2
    cases e2
    have := block_lt hx
    have := hlt
    show b ≠ _
    omega
  generalize hw2 : w1.alloc (.cells #[.slice ao T.length cap, .int .i64 0, .int .i64 0] 101) = w2 at *
  generalize hRR : w1.heap.size = R at *
  have HW2 := hide hw2
  have HRR := hide hRR
  have HVA := hide (HVT.out w2 R hr2 hT2)
  have HR2 := hide hR2
  have HB2 := hide hB2
  have HT2 := hide hT2
  have HLT := hide hlt
  have HRL := hide hr2.lt
  clear hB1 hB1' hR1 hb2 hr2 hR2 hB2 hlt hT2 hw2 hRR HR0 HVC HS0 hTold HB0
  go_wp2_with fail
  rw [HW2.out, HRR.out]
  clear HW2 HRR
  refine HVA.out.mono ?_
  rintro e w3 ⟨⟨xk, xs, xK, xL⟩, rfl, hT0, hr3, hf⟩
  obtain ⟨h4, h5⟩ := hT0.sl
  simp only at h4 h5
  obtain ⟨ua, un, uc, rfl⟩ := h4
  obtain ⟨va, vn, vc, rfl⟩ := h5
  unfold vagg
  simp only
  obtain ⟨hz1', hz2'⟩ := HZ.out
  have n1 : w.heap.size ≠ R := by have := HLT.out; omega
  have n2 : w.heap.size + 1 ≠ R := by have := HLT.out; omega
  have n3 : w.heap.size + 1 + 1 ≠ R := by have := HLT.out; omega
  have hR3 := (⟨HR2.out.v.fr hf n1 (by simp), HR2.out.p.fr hf n2 (by simp), HR2.out.e.fr hf n3 (by simp)⟩ : ResJ w3 w.heap.size _ _ _ _ _ _)
  have hT3 := HT2.out.fr hf
  have hB3 : Below w.heap.size w w3 := HB2.out.trans (hf.below (by have := HLT.out; omega) (fun k e => by cases e) HB2.out.size)
  have hle2 : w.heap.size + 1 + 1 < w2.heap.size := HR2.out.e.lt
  have a0 := hR3.v.cell 0
  have a1 := hR3.v.cell 1
  have a2 := hR3.v.cell 2
  have a3 := hR3.v.cell 3
  simp only [List.getElem?_toArray, List.getElem?_cons_zero, List.getElem?_cons_succ, Nat.reduceAdd] at a0 a1 a2 a3
  have f0 := hR3.v.frozen 0
  have f1 := hR3.v.frozen 1
  have f2 := hR3.v.frozen 2
  have f3 := hR3.v.frozen 3
  have lA := hR3.v.lt
  have hv4 := resJ_v hR3.v (.int .i64 xk) (.string xs) (.slice ua un uc) (.slice va vn vc)
  have hp4 := box_off4 hR3.p (show w.heap.size + 1 ≠ w.heap.size by omega) (.int .i64 xk) (.string xs) (.slice ua un uc) (.slice va vn vc)
  have he4 := box_off4 hR3.e (show w.heap.size + 1 + 1 ≠ w.heap.size by omega) (.int .i64 xk) (.string xs) (.slice ua un uc) (.slice va vn vc)
  have hr4 := box_off4 hr3 n1.symm (.int .i64 xk) (.string xs) (.slice ua un uc) (.slice va vn vc)
  have hB4 : Below w.heap.size w ((((w3.setCell ⟨w.heap.size, 0, none⟩ (.int .i64 xk)).setCell ⟨w.heap.size, 1, none⟩ (.string xs)).setCell ⟨w.heap.size, 2, none⟩ (.slice ua un uc)).setCell ⟨w.heap.size, 3, none⟩ (.slice va vn vc)) :=
    (((hB3.setCell (p := ⟨w.heap.size, 0, none⟩) (Nat.le_refl _) _).setCell (p := ⟨w.heap.size, 1, none⟩) (Nat.le_refl _) _).setCell (p := ⟨w.heap.size, 2, none⟩) (Nat.le_refl _) _).setCell (p := ⟨w.heap.size, 3, none⟩) (Nat.le_refl _) _
  have hT4 : TxJ ((((w3.setCell ⟨w.heap.size, 0, none⟩ (.int .i64 xk)).setCell ⟨w.heap.size, 1, none⟩ (.string xs)).setCell ⟨w.heap.size, 2, none⟩ (.slice ua un uc)).setCell ⟨w.heap.size, 3, none⟩ (.slice va vn vc)) R ao cap T := ⟨HH.out.below hB4, hT3.off, hT3.len, hT3.cap⟩
  have hT4' : TIn ((((w3.setCell ⟨w.heap.size, 0, none⟩ (.int .i64 xk)).setCell ⟨w.heap.size, 1, none⟩ (.string xs)).setCell ⟨w.heap.size, 2, none⟩ (.slice ua un uc)).setCell ⟨w.heap.size, 3, none⟩ (.slice va vn vc)) (fun b => w2.heap.size ≤ b) (xk, xs, .slice ua un uc, .slice va vn vc) T0 := hT0.keep fun b hs _ => by
    have hs' : w2.heap.size ≤ b := hs
    have hne : b ≠ w.heap.size := by omega
    refine ⟨hs, ?_⟩
    rw [Below.heap_setCell _ ⟨w.heap.size, 3, none⟩ _ b hne, Below.heap_setCell _ ⟨w.heap.size, 2, none⟩ _ b hne, Below.heap_setCell _ ⟨w.heap.size, 1, none⟩ _ b hne, Below.heap_setCell _ ⟨w.heap.size, 0, none⟩ _ b hne]
  generalize hw4 : (((w3.setCell ⟨w.heap.size, 0, none⟩ (.int .i64 xk)).setCell ⟨w.heap.size, 1, none⟩ (.string xs)).setCell ⟨w.heap.size, 2, none⟩ (.slice ua un uc)).setCell ⟨w.heap.size, 3, none⟩ (.slice va vn vc) = w4 at *
  have HW4 := hide hw4
  have HSK := hide (skipBlanks_calls w4 R z 0 ao cap T hr4 hT4 hz1')
  rw [hz2'] at HSK
  have HV4 := hide hv4
  have HP4 := hide hp4
  have HE4 := hide he4
  have HO4 := hide hT4'
  have HB4 := hide hB4
  clear hT0 hT4' hr3 hf hR3 hT3 hB3 hv4 hp4 he4 hr4 hB4 hT4 hw4 hz1' hz2' HB2 HT2 n1 n2 n3
  go_wp2_with fail
  rw [HW4.out]
  clear HW4 a0 a1 a2 a3 f0 f1 f2 f3 lA
  refine HSK.out.mono ?_
  rintro e w5 ⟨rfl, hr5, _, hf5⟩
  have n1 : w.heap.size ≠ R := by have := HLT.out; omega
  have n2 : w.heap.size + 1 ≠ R := by have := HLT.out; omega
  have n3 : w.heap.size + 1 + 1 ≠ R := by have := HLT.out; omega
  have hv5 := HV4.out.fr hf5 n1 (by simp)
  have hp5 := HP4.out.fr hf5 n2 (by simp)
  have he5 := HE4.out.fr hf5 n3 (by simp)
  have hle2 : w.heap.size + 1 + 1 < w2.heap.size := HR2.out.e.lt
  have hT5 := HO4.out.keep (W' := w5) (S' := fun b => w2.heap.size ≤ b) (fun b hs hlt => ⟨hs, hf5.block hlt (fun q => by have hs' : w2.heap.size ≤ b := hs; have := HRL.out; omega) (by simp)⟩)
  have hB5 := HB4.out.trans (hf5.below (by have := HLT.out; omega) (fun k e => by cases e) HB4.out.size)
  have c1 : w5.cell? ⟨R, 1, none⟩ = some (.int .i64 (T.length : Int)) := hr5.cell 1
  have lR := hr5.lt
  have a0 := hv5.cell 0
  have a1 := hv5.cell 1
  have a2 := hv5.cell 2
  have a3 := hv5.cell 3
  have b0 := hp5.cell 0
  have b1 := he5.cell 0
  simp only [List.getElem?_toArray, List.getElem?_cons_zero, List.getElem?_cons_succ, Nat.reduceAdd] at a0 a1 a2 a3 b0 b1
  have f0 := hv5.frozen 0
  have f1 := hv5.frozen 1
  have f2 := hv5.frozen 2
  have f3 := hv5.frozen 3
  have f4 := hp5.frozen 0
  have f5 := he5.frozen 0
  have lA := hv5.lt
  have dlt : ¬ (T.length : Int) < (T.length : Int) := by omega
  have HR5 : Hid (ResJ w5 w.heap.size (.int .i64 xk) (.string xs) (.slice ua un uc) (.slice va vn vc) (.int .i64 0) (.int .i64 0)) := ⟨hv5, hp5, he5⟩
  have HO5 := hide hT5
  have HLE := hide hle2
  have HB5 := hide hB5
  clear hr5 hf5 hv5 hp5 he5 hT5 hle2 hB5 HV4 HP4 HE4 HO4 HB4 HR2 n1 n2 n3 HSK
  go_wp2
  have HR6 := resJ_put HR5.out (.int .i64 xk) (.string xs) (.slice ua un uc) (.slice va vn vc) (.int .i64 0) (.int .i64 0)
  have HB6 := below_put HB5.out (Nat.le_refl _) (.int .i64 xk) (.string xs) (.slice ua un uc) (.slice va vn vc) (.int .i64 0) (.int .i64 0)
  have HO6 := HO5.out.keep (W' := (((((w5.setCell ⟨w.heap.size, 0, none⟩ (.int .i64 xk)).setCell ⟨w.heap.size, 1, none⟩ (.string xs)).setCell ⟨w.heap.size, 2, none⟩ (.slice ua un uc)).setCell ⟨w.heap.size, 3, none⟩ (.slice va vn vc)).setCell ⟨w.heap.size + 1, 0, none⟩ (.int .i64 0)).setCell ⟨w.heap.size + 1 + 1, 0, none⟩ (.int .i64 0)) (S' := fun b => w.heap.size ≤ b) (fun b hs hlt => by
    have hs' : w2.heap.size ≤ b := hs
    have hle := HLE.out
    have hne : b ≠ w.heap.size := by omega
    refine ⟨by show w.heap.size ≤ b; omega, ?_⟩
    rw [Below.heap_setCell _ ⟨w.heap.size + 1 + 1, 0, none⟩ _ b (by show b ≠ w.heap.size + 1 + 1; omega), Below.heap_setCell _ ⟨w.heap.size + 1, 0, none⟩ _ b (by show b ≠ w.heap.size + 1; omega), Below.heap_setCell _ ⟨w.heap.size, 3, none⟩ _ b hne, Below.heap_setCell _ ⟨w.heap.size, 2, none⟩ _ b hne, Below.heap_setCell _ ⟨w.heap.size, 1, none⟩ _ b hne, Below.heap_setCell _ ⟨w.heap.size, 0, none⟩ _ b hne])
  refine leaves_cons (f := 46) (args := #[.pointer (some ⟨w.heap.size, 0, none⟩), .pointer (some ⟨w.heap.size + 1, 0, none⟩), .pointer (some ⟨w.heap.size + 1 + 1, 0, none⟩)]) (by simp) (by simp [go_sem]) ?_
  refine (parse1_ret _ _ _ _).mono ?_
  rintro e u' w6 ⟨rfl, rfl, hw6⟩
  rw [hw6]
  clear hw6
  show Leaves _ _ _ _ [] .returning _
  exact ⟨_, results_p3 rfl rfl rfl rfl HR6, ⟨_, rfl, HO6⟩, HB6⟩

end Go.Proofs.YtbdpmpepmjpadaaGreatDoor

namespace Go.Proofs.YtbdpmpepmjpadaaGreatDoor
set_option linter.unusedVariables false
set_option linter.unusedSimpArgs false
set_option maxRecDepth 100000
open Go Go.RowKit Go.Shelf Go.Lib

def ex6 : List Nat := [123, 34, 106, 115, 111, 110, 114, 112, 99, 34, 58, 34, 50, 46, 48, 34, 44, 34, 105, 100, 34, 58, 49, 44, 34, 109, 101, 116, 104, 111, 100, 34, 58, 34, 109, 34, 125]
def ex7 : List Nat := [91, 49, 93]
theorem ex6_small : ∀ x ∈ ex6, x < 256 := by decide
theorem ex7_small : ∀ x ∈ ex7, x < 256 := by decide
theorem ex6_pos : ∀ k, k < 37 → posL ex6 k < ex6.length := by decide +kernel
theorem ex7_pos : ∀ k, k < 3 → posL ex7 k < ex7.length := by decide +kernel
theorem ex6_end : posL ex6 37 = ex6.length := by decide +kernel
theorem ex7_end : posL ex7 3 = ex7.length := by decide +kernel
theorem ex6_rune : ∀ k, k < 37 → runeAt ex6 (posL ex6 k) ≠ -1 := by decide +kernel
theorem ex7_rune : ∀ k, k < 3 → runeAt ex7 (posL ex7 k) ≠ -1 := by decide +kernel
def kJson : ByteArray := ⟨#[106, 115, 111, 110, 114, 112, 99]⟩
def kId : ByteArray := ⟨#[105, 100]⟩
def kMethod : ByteArray := ⟨#[109, 101, 116, 104, 111, 100]⟩
def sVer : ByteArray := ⟨#[50, 46, 48]⟩
def sM : ByteArray := ⟨#[109]⟩
def sOne : ByteArray := ⟨#[49]⟩
def cVer : JC := (4, sVer, .slice none 0 0, .slice none 0 0)
def cOne : JC := (3, sOne, .slice none 0 0, .slice none 0 0)
def cM : JC := (4, sM, .slice none 0 0, .slice none 0 0)
def tree6 : JT := .mk 6 ⟨#[]⟩ [kJson, kId, kMethod] [flatT cVer, flatT cOne, flatT cM]
def tree7 : JT := .mk 5 ⟨#[]⟩ [] [flatT cOne]
def val6 (q : Nat) : Option VR := if q = 11 then some (.ok cVer 16) else if q = 22 then some (.ok cOne 23) else if q = 33 then some (.ok cM 36) else none
def parts6 : List OP := [⟨1, 9, kJson, cVer, 16⟩, ⟨17, 20, kId, cOne, 23⟩, ⟨24, 31, kMethod, cM, 36⟩]
theorem plainR {T : List Nat} {a q : Nat} (h : ∀ j, j < q → a ≤ j → 32 ≤ nth T j ∧ nth T j ≠ 34 ∧ nth T j ≠ 92) : ∀ j, a ≤ j → j < q → 32 ≤ nth T j ∧ nth T j ≠ 34 ∧ nth T j ≠ 92 := fun j h1 h2 => h j h2 h1
theorem chain6 : Chain ex6 val6 1 true parts6 37 := by
  refine ⟨by kernel_rfl, by kernel_rfl, by decide, by decide, by kernel_rfl, plainR (by decide +kernel), by kernel_rfl, by decide +kernel, by kernel_rfl, by kernel_rfl, ?_⟩
  refine ⟨by kernel_rfl, by kernel_rfl, by decide, by decide, by kernel_rfl, plainR (by decide +kernel), by kernel_rfl, by decide +kernel, by kernel_rfl, by kernel_rfl, ?_⟩
  refine ⟨by kernel_rfl, by kernel_rfl, by decide, by decide, by kernel_rfl, plainR (by decide +kernel), by kernel_rfl, by decide +kernel, by kernel_rfl, by kernel_rfl, ?_⟩
  show endL ex6 125 36 false = .yes 37
  kernel_rfl
theorem hval6 (R d : Nat) (ao : Option Addr) (cap : Nat) : HVal val6 R d ao cap ex6 := by
  intro W q r h hq hr hT
  unfold val6 at h
  split at h
  · rename_i e
    subst e
    cases h
    have hb : blEnd ex6 11 = 11 := by decide +kernel
    have := value_str W R 11 d ao cap ex6 15 hr hT hq (by rw [hb]; decide) (by rw [hb]; kernel_rfl) (by rw [hb]; exact ⟨by decide, by decide, by kernel_rfl, plainR (by decide +kernel)⟩)
    rw [hb] at this
    exact this
  split at h
  · rename_i e
    subst e
    cases h
    exact value_num W R 22 d ao cap ex6 (.ok cOne 23) (by kernel_rfl) hr hT hq
  split at h
  · rename_i e
    subst e
    cases h
    have hb : blEnd ex6 33 = 33 := by decide +kernel
    have := value_str W R 33 d ao cap ex6 35 hr hT hq (by rw [hb]; decide) (by rw [hb]; kernel_rfl) (by rw [hb]; exact ⟨by decide, by decide, by kernel_rfl, plainR (by decide +kernel)⟩)
    rw [hb] at this
    exact this
  · cases h
theorem okv6 : OkV val6 ex6 := by
  intro q x p h
  unfold val6 at h
  split at h
  · rename_i e
    subst e
    cases h
    exact ⟨by decide, by decide, rfl, rfl⟩
  split at h
  · rename_i e
    subst e
    cases h
    exact ⟨by decide, by decide, rfl, rfl⟩
  split at h
  · rename_i e
    subst e
    cases h
    exact ⟨by decide, by decide, rfl, rfl⟩
  · cases h
theorem value6 (W : World) (R : Nat) (ao : Option Addr) (cap : Nat) (hr : RdJ W R (.slice ao ex6.length cap) 0 0) (hT : TxJ W R ao cap ex6) : Calls Tryz.prog 48 #[.pointer (some ⟨R, 0, none⟩)] W (TreeJ tree6 37 W R (.slice ao ex6.length cap) 0) := by
  have hb : blEnd ex6 0 = 0 := by decide +kernel
  refine value_obj W R 0 0 ao cap ex6 tree6 37 hr hT (Nat.zero_le _) (by rw [hb]; decide) (by rw [hb]; kernel_rfl) (by decide) (fun W' hr' hT' => ?_)
  rw [hb] at hr'
  refine (object_ok val6 W' R 1 1 ao cap ex6 parts6 37 [kJson, kId, kMethod] [cVer, cOne, cM] hr' hT' (by decide) (hval6 R 1 ao cap) okv6 rfl rfl chain6 (by decide +kernel)).mono ?_
  rintro e w' ⟨kv, lv, rfl, hk, hv, hat⟩
  exact ⟨_, rfl, own_tree 6 ⟨#[]⟩ (own_strs hk) hv (fun x hx => by
    simp only [List.mem_cons, List.not_mem_nil, or_false] at hx
    rcases hx with rfl | rfl | rfl <;> exact ⟨rfl, rfl⟩), hat⟩
theorem parse6 (w : World) (ao : Option Addr) (cap : Nat) (h : Byts w (.slice ao ex6.length cap) ex6) (hU : Utf8Tabs 0 1 w) (hcap : ex6.length ≤ cap) :
    Calls Tryz.prog 23 #[.slice ao ex6.length cap] w fun e w' => (∃ x : JC, e = .returned (.tuple #[vagg x, .int .i64 0, .int .i64 0]) ∧ TIn w' (fun b => w.heap.size ≤ b) x tree6) ∧ Below w.heap.size w w' :=
  parse_tree w ao cap ex6 37 tree6 37 h hU ex6_pos ex6_end ex6_rune (by decide) hcap (by decide) (fun W R hr hT => value6 W R ao cap hr hT) (by decide) (by decide +kernel)
theorem parse7 (w : World) (ao : Option Addr) (cap : Nat) (h : Byts w (.slice ao ex7.length cap) ex7) (hU : Utf8Tabs 0 1 w) (hcap : ex7.length ≤ cap) :
    Calls Tryz.prog 23 #[.slice ao ex7.length cap] w fun e w' => (∃ x : JC, e = .returned (.tuple #[vagg x, .int .i64 0, .int .i64 0]) ∧ TIn w' (fun b => w.heap.size ≤ b) x tree7) ∧ Below w.heap.size w w' := by
  refine (parse_calls w ao cap ex7 3 5 (.ok [cOne] 3) h hU ex7_pos ex7_end ex7_rune (by decide) hcap (by decide +kernel) (by decide +kernel) (by kernel_rfl) (fun M q e => by cases e; exact ⟨by decide +kernel, by decide⟩)).mono ?_
  rintro e w' ⟨⟨lv, rfl, ho, _⟩, hb⟩
  exact ⟨⟨_, rfl, own_tree 5 ⟨#[]⟩ (K := []) ⟨none, 0, rfl, fun j hj => by simp at hj⟩ ho (fun x hx => by
    simp only [List.mem_cons, List.not_mem_nil, or_false] at hx
    rw [hx]
    exact ⟨rfl, rfl⟩)⟩, hb⟩

end Go.Proofs.YtbdpmpepmjpadaaGreatDoor

namespace Go.Proofs.YtbdpmpepmjpadaaGreatDoor
set_option linter.unusedVariables false
set_option linter.unusedSimpArgs false
set_option maxRecDepth 100000
open Go Go.RowKit Go.Shelf Go.Lib

def EfnR (w : World) (ln ln' : Nat) (f : Nat → Bool) (e : Ending) (w' : World) : Prop := ∃ r, e = .returned (.bool r) ∧ (r = true ↔ ln = ln' ∧ ∀ i, i < ln → f i = true) ∧ Below w.heap.size w w'
set_option maxHeartbeats 8000000 in
theorem efn_any (w : World) (la la' : Option Addr) (ln ln' lc lc' : Nat) (xs ys : Nat → JC) (f : Nat → Bool)
    (hc : ∀ w2, Below w.heap.size w w2 → ∀ i, i < ln → ∃ b off, la = some ⟨b, off, none⟩ ∧ ∀ r, r < 4 → w2.cell? ⟨b, off + (i * 4 + r), none⟩ = (vcell (xs i))[r]?)
    (hc' : ∀ w2, Below w.heap.size w w2 → ∀ i, i < ln' → ∃ b off, la' = some ⟨b, off, none⟩ ∧ ∀ r, r < 4 → w2.cell? ⟨b, off + (i * 4 + r), none⟩ = (vcell (ys i))[r]?)
    (hsl : ∀ i, i < ln → IsSl (xs i).2.2.1 ∧ IsSl (xs i).2.2.2) (hsl' : ∀ i, i < ln' → IsSl (ys i).2.2.1 ∧ IsSl (ys i).2.2.2)
    (hf : ∀ i, i < ln → i < ln' → ∀ w2, Below w.heap.size w w2 → Calls Tryz.prog 53 #[vagg (xs i), vagg (ys i)] w2 fun e w' => e = .returned (.bool (f i)) ∧ Below w2.heap.size w2 w') (hl : ln ≤ 1000000) :
    Calls Tryz.prog 79 #[.slice la ln lc, .slice la' ln' lc', .func (.func 53) #[] #[]] w (EfnR w ln ln' f) := by
  have HC := hide hc
  have HC' := hide hc'
  have HSL := hide hsl
  have HSL' := hide hsl'
  have HF := hide hf
  have HH := hide hl
  clear hc hc' hsl hsl' hf hl
  by_cases hK : ln = ln'
  rotate_left
  · have d1 : ((ln : Int) != (ln' : Int)) = true := by simp; omega
    have HKK := hide hK
    clear hK
    go_enter Tryz.func79, Tryz.ntmps79
    go_wp2
    go_ret
    exact ⟨false, rfl, ⟨fun h => (by cases h), fun h => absurd h.1 HKK.out⟩, Below.refl _ _⟩
  subst hK
  go_enter Tryz.func79, Tryz.ntmps79
  go_wp2
  go_loopw [17] (fun iv wr => ∃ i : Nat, i ≤ ln ∧ iv = .int .i64 (i : Int) ∧ Below w.heap.size w wr ∧ ∀ q, q < i → f q = true) (fun iv _ => ln - (RowKit.intOf iv).toNat)
  case atStart => exact ⟨0, Nat.zero_le _, rfl, Below.refl _ _, fun q h => by omega⟩
  case round =>
    obtain ⟨i, hi, rfl, hB, hQ⟩ := hrel
    have HQ := hide hQ
    have HBR := hide hB
    clear hB hQ
    generalize wr = wo at *
    by_cases hlt : i < ln
    · obtain ⟨b, off, rfl, cx⟩ := HC.out wo HBR.out i hlt
      obtain ⟨b', off', rfl, cy⟩ := HC'.out wo HBR.out i hlt
      obtain ⟨hs2, hs3⟩ := HSL.out i hlt
      obtain ⟨hs4, hs5⟩ := HSL'.out i hlt
      have hcall := HF.out i hlt hlt
      generalize xs i = y at *
      obtain ⟨yk, ys', yK, yL⟩ := y
      generalize ys i = z at *
      obtain ⟨zk, zs, zK, zL⟩ := z
      simp only [vagg, vcell] at hcall cx cy hs2 hs3 hs4 hs5
      obtain ⟨pa, pn, pc, rfl⟩ := hs2
      obtain ⟨qa, qn, qc, rfl⟩ := hs3
      obtain ⟨pa', pn', pc', rfl⟩ := hs4
      obtain ⟨qa', qn', qc', rfl⟩ := hs5
      have x0 := cx 0 (by omega)
      have x1 := cx 1 (by omega)
      have x2 := cx 2 (by omega)
      have x3 := cx 3 (by omega)
      have y0 := cy 0 (by omega)
      have y1 := cy 1 (by omega)
      have y2 := cy 2 (by omega)
      have y3 := cy 3 (by omega)
      simp only [List.getElem?_cons_zero, List.getElem?_cons_succ, ← Nat.add_assoc, Nat.add_zero] at x0 x1 x2 x3 y0 y1 y2 y3
      obtain ⟨i1, hi1⟩ : ∃ i1, i + 1 = i1 := ⟨_, rfl⟩
      have e1 : (i : Int) + 1 = (i1 : Int) := by omega
      have g1 : (i1 : Int) ≤ 1000000000 := by have := HH.out; omega
      have d1 : (i : Int) < (ln : Int) := by omega
      have d0 : (0 : Int) ≤ (i : Int) := by omega
      have HI := hide (And.intro hlt hi1)
      have hb2 : Below w.heap.size w ((wo.alloc (.cells #[.int .i64 yk, .string ys', .slice pa pn pc, .slice qa qn qc] 27)).alloc (.cells #[.int .i64 zk, .string zs, .slice pa' pn' pc', .slice qa' qn' qc'] 27)) := HBR.out.trans (((bel wo _).alloc (by simp) _).mono HBR.out.size)
      have hcall2 := hcall _ hb2
      have HB2 := hide hb2
      have ly := block_lt (show wo.cell? ⟨b', off' + i * 4, none⟩ = some _ from y0)
      obtain ⟨r, hr⟩ : ∃ r, f i = r := ⟨_, rfl⟩
      rw [hr] at hcall2
      have HR := hide hr
      clear hcall hlt hi1 hi cx cy hb2 hr
      go_wp2_with fail
      refine hcall2.mono ?_
      rintro e w3 ⟨rfl, hb3⟩
      have HB3 := hide (HB2.out.trans (hb3.mono HB2.out.size))
      clear hcall2 hb3
      cases r
      · go_wp2
        go_ret
        refine ⟨false, rfl, ⟨fun h => (by cases h), fun h => ?_⟩, HB3.out⟩
        have := h.2 i HI.out.1
        rw [HR.out] at this
        cases this
      · go_wp2
        go_roundw
        case rel =>
          refine ⟨i1, by have := HI.out; omega, by first | rfl | go_num, HB3.out, fun q hq => ?_⟩
          rcases Nat.lt_or_ge q i with h | h
          · exact HQ.out q h
          · obtain rfl : q = i := by have := HI.out; omega
            exact HR.out
        case measure => have := HI.out; simp [RowKit.intOf]; omega
    · obtain rfl : i = ln := by omega
      have d5 : ¬ (i : Int) < (i : Int) := by omega
      clear hlt hi
      go_wp2
      go_ret
      exact ⟨true, rfl, ⟨fun _ => ⟨rfl, fun q h => HQ.out q h⟩, fun _ => rfl⟩, HBR.out⟩

end Go.Proofs.YtbdpmpepmjpadaaGreatDoor

namespace Go.Proofs.YtbdpmpepmjpadaaGreatDoor
set_option linter.unusedVariables false
set_option linter.unusedSimpArgs false
set_option maxRecDepth 100000
open Go Go.RowKit Go.Shelf Go.Lib

def fP (L L' : List JT) (i : Nat) : Bool := match L[i]?, L'[i]? with | some a, some b => eqJ a b | _, _ => false
theorem fP_all {L L' : List JT} : (L.length = L'.length ∧ ∀ i, i < L.length → fP L L' i = true) ↔ eqJs L L' = true := by
  rw [eqJs_iff]
  constructor
  · rintro ⟨h1, h2⟩
    refine ⟨h1, fun i a b ha hb => ?_⟩
    have := h2 i (List.getElem?_eq_some_iff.1 ha).1
    simpa [fP, ha, hb] using this
  · rintro ⟨h1, h2⟩
    refine ⟨h1, fun i hi => ?_⟩
    have ha : L[i]? = some L[i] := List.getElem?_eq_getElem hi
    have hb : L'[i]? = some (L'[i]'(by omega)) := List.getElem?_eq_getElem (by omega)
    simp only [fP, ha, hb]
    exact h2 i _ _ ha hb

set_option maxHeartbeats 16000000 in
theorem equal_any {W : World} {S : Nat → Prop} {x : JC} {T : JT} (h : TIn W S x T) (hl : LtT T) : ∀ {S' : Nat → Prop} {y : JC} {T' : JT}, TIn W S' y T' → LtT T' → ∀ (w : World), Below W.heap.size W w → Calls Tryz.prog 53 #[vagg x, vagg y] w (REqR w T T') := by
  induction h with
  | mk k s kv la lc K L xs hK hc hsl ht ih =>
    intro S' y T' hy hl' w hW
    cases hy with
    | mk k' s' kv' la' lc' K' L' ys hK' hc' hsl' ht' =>
    obtain ⟨_, _, _, _, hKl, hLl, hsz, hll⟩ := hl
    obtain ⟨_, _, _, _, hKl', hLl', hsz', hll'⟩ := hl'
    obtain ⟨ka, kc, rfl, hKc⟩ := hK
    obtain ⟨ka', kc', rfl, hKc'⟩ := hK'
    obtain ⟨a1, c1, a2, c2, hpx, hk1, hp1⟩ := plain_parts (la := la) (lc := lc) (L := L) k s (show StrsS W S (.slice ka K.length kc) K from ⟨ka, kc, rfl, hKc⟩)
    obtain ⟨a1', c1', a2', c2', hpy, hk1', hp1'⟩ := plain_parts (la := la') (lc := lc') (L := L') k' s' (show StrsS W S' (.slice ka' K'.length kc') K' from ⟨ka', kc', rfl, hKc'⟩)
    have HIH : Hid (∀ i (hi : i < L.length) (hi' : i < L'.length) w2, Below w.heap.size w w2 → Calls Tryz.prog 53 #[vagg (xs i), vagg (ys i)] w2 (REqR w2 L[i] L'[i])) := fun i hi hi' w2 h2 => ih i hi (hll i hi) (ht' i hi') (hll' i hi') w2 (hW.trans (h2.mono hW.size))
    have HLC : Hid (∀ w2, Below w.heap.size w w2 → ∀ i, i < (lP k L).length → ∃ b off, a2 = some ⟨b, off, none⟩ ∧ ∀ r, r < 4 → w2.cell? ⟨b, off + (i * 4 + r), none⟩ = (vcell (xs i))[r]?) := fun w2 h2 i hi => by
      obtain ⟨b, off, e, _, hx⟩ := hc i (hp1 i hi).1
      refine ⟨b, off, (hp1 i hi).2.2.trans e, fun r hr => ?_⟩
      have h0 := hx 0 (by omega)
      simp only [vcell, List.getElem?_cons_zero] at h0
      exact ((hW.trans (h2.mono hW.size)).cell (p := ⟨b, off + (i * 4 + r), none⟩) (block_lt h0)).trans (hx r hr)
    have HSL : Hid (∀ i, i < (lP k L).length → IsSl (xs i).2.2.1 ∧ IsSl (xs i).2.2.2) := fun i hi => hsl i (hp1 i hi).1
    have HLC' : Hid (∀ w2, Below w.heap.size w w2 → ∀ i, i < (lP k' L').length → ∃ b off, a2' = some ⟨b, off, none⟩ ∧ ∀ r, r < 4 → w2.cell? ⟨b, off + (i * 4 + r), none⟩ = (vcell (ys i))[r]?) := fun w2 h2 i hi => by
      obtain ⟨b, off, e, _, hx⟩ := hc' i (hp1' i hi).1
      refine ⟨b, off, (hp1' i hi).2.2.trans e, fun r hr => ?_⟩
      have h0 := hx 0 (by omega)
      simp only [vcell, List.getElem?_cons_zero] at h0
      exact ((hW.trans (h2.mono hW.size)).cell (p := ⟨b, off + (i * 4 + r), none⟩) (block_lt h0)).trans (hx r hr)
    have HSL' : Hid (∀ i, i < (lP k' L').length → IsSl (ys i).2.2.1 ∧ IsSl (ys i).2.2.2) := fun i hi => hsl' i (hp1' i hi).1
    have HF : Hid (∀ i, i < (lP k L).length → i < (lP k' L').length → ∀ w2, Below w.heap.size w w2 → Calls Tryz.prog 53 #[vagg (xs i), vagg (ys i)] w2 fun e w' => e = .returned (.bool (fP (lP k L) (lP k' L') i)) ∧ Below w2.heap.size w2 w') := fun i hi hi' w2 h2 => by
      obtain ⟨g1, g2, _⟩ := hp1 i hi
      obtain ⟨g1', g2', _⟩ := hp1' i hi'
      refine (HIH.out i g1 g1' w2 h2).mono fun e w3 h3 => ⟨?_, h3.2⟩
      rw [h3.1, g2, g2']
      simp only [fP, List.getElem?_eq_getElem g1, List.getElem?_eq_getElem g1']
    have HSEQ : Hid (∀ w2, Below w.heap.size w w2 → Calls Tryz.prog 78 #[.slice a1 (kP k K).length c1, .slice a1' (kP k' K').length c1'] w2 (SeqR w2 (kP k K) (kP k' K'))) := fun w2 h2 => seq_any hk1 hk1' (Nat.le_trans (show (kP k K).length ≤ K.length by unfold kP; split <;> simp) (by omega)) w2 (hW.trans (h2.mono hW.size))
    have HLL : Hid ((lP k L).length ≤ 1000000) := by
      show _ ≤ _
      unfold lP
      split
      · omega
      · simp
    have HEFN : Hid (∀ w2, Below w.heap.size w w2 → Calls Tryz.prog 79 #[.slice a2 (lP k L).length c2, .slice a2' (lP k' L').length c2', .func (.func 53) #[] #[]] w2 (EfnR w2 (lP k L).length (lP k' L').length (fP (lP k L) (lP k' L')))) := fun w2 h2 => efn_any w2 a2 a2' _ _ c2 c2' xs ys _ (fun w3 h3 => HLC.out w3 (h2.trans (h3.mono h2.size))) (fun w3 h3 => HLC'.out w3 (h2.trans (h3.mono h2.size))) HSL.out HSL'.out (fun i hi hi' w3 h3 => HF.out i hi hi' w3 (h2.trans (h3.mono h2.size))) HLL.out
    have HEQ : Hid (eqJ (.mk k s K L) (.mk k' s' K' L') = true ↔ k = k' ∧ sP k s = sP k' s' ∧ kP k K = kP k' K' ∧ (lP k L).length = (lP k' L').length ∧ ∀ i, i < (lP k L).length → fP (lP k L) (lP k' L') i = true) := by show _ ↔ _; rw [eqJ_by, fP_all]
    obtain ⟨kn, hkn⟩ : ∃ kn, K.length = kn := ⟨_, rfl⟩
    obtain ⟨ln, hln⟩ : ∃ ln, L.length = ln := ⟨_, rfl⟩
    obtain ⟨kn', hkn'⟩ : ∃ kn, K'.length = kn := ⟨_, rfl⟩
    obtain ⟨ln', hln'⟩ : ∃ ln, L'.length = ln := ⟨_, rfl⟩
    obtain ⟨R, hR⟩ : ∃ R, eqJ (.mk k s K L) (.mk k' s' K' L') = R := ⟨_, rfl⟩
    unfold REqR
    rw [hR] at HEQ ⊢
    rw [hkn, hln] at hpx
    rw [hkn', hln'] at hpy
    unfold vagg
    simp only
    rw [hkn, hln, hkn', hln']
    clear HIH HLC HLC' HSL HSL' HF HLL ih ht ht' hc hc' hsl hsl' hKc hKc' hll hll' hKl hKl' hLl hLl' hsz hsz' hkn hln hkn' hln' hk1 hk1' hp1 hp1' hR hW
    generalize sP k s = s1 at *
    generalize sP k' s' = s1' at *
    generalize kP k K = K1 at *
    generalize kP k' K' = K1' at *
    generalize lP k L = L1 at *
    generalize lP k' L' = L1' at *
    generalize fP L1 L1' = f at *
    generalize K1.length = n1 at *
    generalize K1'.length = n1' at *
    generalize L1.length = n2 at *
    generalize L1'.length = n2' at *
    have HCX : Hid (∀ W2, Calls Tryz.prog 72 #[.agg #[.int .i64 k, .string s, .slice ka kn kc, .slice la ln lc]] W2 fun e w' => e = .returned (.agg #[.int .i64 k, .string s1, .slice a1 n1 c1, .slice a2 n2 c2]) ∧ Below W2.heap.size W2 w') := fun W2 => (plain_any W2 k s ka la kn kc ln lc).mono fun e w' h => ⟨by rw [h.1, hpx]; rfl, h.2⟩
    have HCY : Hid (∀ W2, Calls Tryz.prog 72 #[.agg #[.int .i64 k', .string s', .slice ka' kn' kc', .slice la' ln' lc']] W2 fun e w' => e = .returned (.agg #[.int .i64 k', .string s1', .slice a1' n1' c1', .slice a2' n2' c2']) ∧ Below W2.heap.size W2 w') := fun W2 => (plain_any W2 k' s' ka' la' kn' kc' ln' lc').mono fun e w' h => ⟨by rw [h.1, hpy]; rfl, h.2⟩
    clear hpx hpy
    have hb : Below w.heap.size w ((w.alloc (.cells #[.int .i64 k, .string s, .slice ka kn kc, .slice la ln lc] 27)).alloc (.cells #[.int .i64 k', .string s', .slice ka' kn' kc', .slice la' ln' lc'] 27)) := (bel w _).alloc (by simp) _
    have hp := (BoxC.new w 27 #[.int .i64 k, .string s, .slice ka kn kc, .slice la ln lc]).alloc (.cells #[.int .i64 k', .string s', .slice ka' kn' kc', .slice la' ln' lc'] 27)
    have hq := BoxC.new (w.alloc (.cells #[.int .i64 k, .string s, .slice ka kn kc, .slice la ln lc] 27)) 27 #[.int .i64 k', .string s', .slice ka' kn' kc', .slice la' ln' lc']
    rw [World.size_alloc] at hq
    generalize hw0 : (w.alloc (.cells #[.int .i64 k, .string s, .slice ka kn kc, .slice la ln lc] 27)).alloc (.cells #[.int .i64 k', .string s', .slice ka' kn' kc', .slice la' ln' lc'] 27) = w0 at *
    have HW0 := hide hw0
    have HPD : Hid (BoxC w0.drew w.heap.size 27 #[.int .i64 k, .string s, .slice ka kn kc, .slice la ln lc]) := hp
    have HQD : Hid (BoxC w0.drew (w.heap.size + 1) 27 #[.int .i64 k', .string s', .slice ka' kn' kc', .slice la' ln' lc']) := hq
    have HBD : Hid (Below w.heap.size w w0.drew) := hb.drew
    have HS : Hid (∀ X0 : World, BoxC X0 w.heap.size 27 #[.int .i64 k, .string s, .slice ka kn kc, .slice la ln lc] → BoxC X0 (w.heap.size + 1) 27 #[.int .i64 k', .string s', .slice ka' kn' kc', .slice la' ln' lc'] → (X0.cell? ⟨w.heap.size, 0, none⟩ = some (.int .i64 k) ∧ X0.cell? ⟨w.heap.size, 1, none⟩ = some (.string s) ∧ X0.cell? ⟨w.heap.size, 2, none⟩ = some (.slice ka kn kc) ∧ X0.cell? ⟨w.heap.size, 3, none⟩ = some (.slice la ln lc) ∧ X0.cell? ⟨w.heap.size + 1, 0, none⟩ = some (.int .i64 k') ∧ X0.cell? ⟨w.heap.size + 1, 1, none⟩ = some (.string s') ∧ X0.cell? ⟨w.heap.size + 1, 2, none⟩ = some (.slice ka' kn' kc') ∧ X0.cell? ⟨w.heap.size + 1, 3, none⟩ = some (.slice la' ln' lc'))) := fun X0 h k => ⟨h.cell 0, h.cell 1, h.cell 2, h.cell 3, k.cell 0, k.cell 1, k.cell 2, k.cell 3⟩
    clear hw0 hp hq hb
    go_enter Tryz.func53, Tryz.ntmps53
    go_upto_region 1 with fail
    rw [HW0.out]
    clear HW0
    refine wp_region_held_drew (S := fun X0 : World => True) (by kernel_rfl) trivial (fun hHeld => ?_)
    generalize w0.drew = wd at *
    refine wpAnyH_ready (rs := [0, 2]) (by kernel_rfl) (by simp) ?_
    refine AllReadyH.cons rfl (fun K9 hK => ?_) (AllReadyH.cons rfl (fun K9 hK => ?_) AllReadyH.nil)
    · have pf0 := HPD.out.frozen 0
      have pc0 : wd.cell? ⟨w.heap.size, 0, none⟩ = some (.int .i64 k) := HPD.out.cell 0
      have pf1 := HPD.out.frozen 1
      have pc1 : wd.cell? ⟨w.heap.size, 1, none⟩ = some (.string s) := HPD.out.cell 1
      have pf2 := HPD.out.frozen 2
      have pc2 : wd.cell? ⟨w.heap.size, 2, none⟩ = some (.slice ka kn kc) := HPD.out.cell 2
      have pf3 := HPD.out.frozen 3
      have pc3 : wd.cell? ⟨w.heap.size, 3, none⟩ = some (.slice la ln lc) := HPD.out.cell 3
      have pl := HPD.out.lt
      have qf0 := HQD.out.frozen 0
      have qc0 : wd.cell? ⟨w.heap.size + 1, 0, none⟩ = some (.int .i64 k') := HQD.out.cell 0
      have qf1 := HQD.out.frozen 1
      have qc1 : wd.cell? ⟨w.heap.size + 1, 1, none⟩ = some (.string s') := HQD.out.cell 1
      have qf2 := HQD.out.frozen 2
      have qc2 : wd.cell? ⟨w.heap.size + 1, 2, none⟩ = some (.slice ka' kn' kc') := HQD.out.cell 2
      have qf3 := HQD.out.frozen 3
      have qc3 : wd.cell? ⟨w.heap.size + 1, 3, none⟩ = some (.slice la' ln' lc') := HQD.out.cell 3
      have ql := HQD.out.lt
      go_simp
      refine hK.out _ _ trivial (fun _ => ?_)
      clear hK K9
      clear pf0 pf1 pf2 pf3 pc0 pc1 pc2 pc3 qf0 qf1 qf2 qf3 qc0 qc1 qc2 qc3 pl ql
      try simp only [Act.put, List.setIfInBounds_toArray, List.set_cons_zero, List.set_cons_succ, vagg]
      refine wpAnyH_ready (rs := [1, 2]) (by kernel_rfl) (by simp) ?_
      refine AllReadyH.cons rfl (fun K9 hK => ?_) (AllReadyH.cons rfl (fun K9 hK => ?_) AllReadyH.nil)
      · go_simp
        refine (HCX.out _).mono ?_
        rintro e w1 ⟨rfl, hB9⟩
        have HP1 := hide (HPD.out.below hB9)
        have HQ1 := hide (HQD.out.below hB9)
        have HB1 := hide (HBD.out.trans (hB9.mono HBD.out.size))
        refine hK.out _ _ trivial (fun _ => ?_)
        clear hK K9 hB9
        try simp only [Act.put, List.setIfInBounds_toArray, List.set_cons_zero, List.set_cons_succ, vagg]
        refine wpAnyH_ready (rs := [2]) (by kernel_rfl) (by simp) ?_
        refine AllReadyH.cons rfl (fun K9 hK => ?_) AllReadyH.nil
        have pf0 := HP1.out.frozen 0
        have pc0 : w1.cell? ⟨w.heap.size, 0, none⟩ = some (.int .i64 k) := HP1.out.cell 0
        have pf1 := HP1.out.frozen 1
        have pc1 : w1.cell? ⟨w.heap.size, 1, none⟩ = some (.string s) := HP1.out.cell 1
        have pf2 := HP1.out.frozen 2
        have pc2 : w1.cell? ⟨w.heap.size, 2, none⟩ = some (.slice ka kn kc) := HP1.out.cell 2
        have pf3 := HP1.out.frozen 3
        have pc3 : w1.cell? ⟨w.heap.size, 3, none⟩ = some (.slice la ln lc) := HP1.out.cell 3
        have pl := HP1.out.lt
        have qf0 := HQ1.out.frozen 0
        have qc0 : w1.cell? ⟨w.heap.size + 1, 0, none⟩ = some (.int .i64 k') := HQ1.out.cell 0
        have qf1 := HQ1.out.frozen 1
        have qc1 : w1.cell? ⟨w.heap.size + 1, 1, none⟩ = some (.string s') := HQ1.out.cell 1
        have qf2 := HQ1.out.frozen 2
        have qc2 : w1.cell? ⟨w.heap.size + 1, 2, none⟩ = some (.slice ka' kn' kc') := HQ1.out.cell 2
        have qf3 := HQ1.out.frozen 3
        have qc3 : w1.cell? ⟨w.heap.size + 1, 3, none⟩ = some (.slice la' ln' lc') := HQ1.out.cell 3
        have ql := HQ1.out.lt
        go_simp
        refine hK.out _ _ trivial (fun _ => ?_)
        clear hK K9
        clear pf0 pf1 pf2 pf3 pc0 pc1 pc2 pc3 qf0 qf1 qf2 qf3 qc0 qc1 qc2 qc3 pl ql
        try simp only [Act.put, List.setIfInBounds_toArray, List.set_cons_zero, List.set_cons_succ, vagg]
        refine wpAnyH_ready (rs := [3]) (by kernel_rfl) (by simp) ?_
        refine AllReadyH.cons rfl (fun K9 hK => ?_) AllReadyH.nil
        go_simp
        refine (HCY.out _).mono ?_
        rintro e w2 ⟨rfl, hB9⟩
        have HP2 := hide (HP1.out.below hB9)
        have HQ2 := hide (HQ1.out.below hB9)
        have HB2 := hide (HB1.out.trans (hB9.mono HB1.out.size))
        refine hK.out _ _ trivial (fun _ => ?_)
        clear hK K9 hB9
        try simp only [Act.put, List.setIfInBounds_toArray, List.set_cons_zero, List.set_cons_succ, vagg]
        refine wpAnyH_ready (rs := [4]) (by kernel_rfl) (by simp) ?_
        refine AllReadyH.cons rfl (fun K9 hK => ?_) AllReadyH.nil
        have pf0 := HP2.out.frozen 0
        have pc0 : w2.cell? ⟨w.heap.size, 0, none⟩ = some (.int .i64 k) := HP2.out.cell 0
        have pf1 := HP2.out.frozen 1
        have pc1 : w2.cell? ⟨w.heap.size, 1, none⟩ = some (.string s) := HP2.out.cell 1
        have pf2 := HP2.out.frozen 2
        have pc2 : w2.cell? ⟨w.heap.size, 2, none⟩ = some (.slice ka kn kc) := HP2.out.cell 2
        have pf3 := HP2.out.frozen 3
        have pc3 : w2.cell? ⟨w.heap.size, 3, none⟩ = some (.slice la ln lc) := HP2.out.cell 3
        have pl := HP2.out.lt
        have qf0 := HQ2.out.frozen 0
        have qc0 : w2.cell? ⟨w.heap.size + 1, 0, none⟩ = some (.int .i64 k') := HQ2.out.cell 0
        have qf1 := HQ2.out.frozen 1
        have qc1 : w2.cell? ⟨w.heap.size + 1, 1, none⟩ = some (.string s') := HQ2.out.cell 1
        have qf2 := HQ2.out.frozen 2
        have qc2 : w2.cell? ⟨w.heap.size + 1, 2, none⟩ = some (.slice ka' kn' kc') := HQ2.out.cell 2
        have qf3 := HQ2.out.frozen 3
        have qc3 : w2.cell? ⟨w.heap.size + 1, 3, none⟩ = some (.slice la' ln' lc') := HQ2.out.cell 3
        have ql := HQ2.out.lt
        go_simp
        have HP3 := hide (resJ_v HP2.out (.int .i64 k) (.string s1) (.slice a1 n1 c1) (.slice a2 n2 c2))
        have HQ3 := hide (box_off4 HQ2.out (show w.heap.size + 1 ≠ w.heap.size by omega) (.int .i64 k) (.string s1) (.slice a1 n1 c1) (.slice a2 n2 c2))
        have HB3 := hide (below4 HB2.out (Nat.le_refl _) (.int .i64 k) (.string s1) (.slice a1 n1 c1) (.slice a2 n2 c2))
        refine hK.out _ _ trivial (fun _ => ?_)
        clear hK K9
        try simp only [Act.put, List.setIfInBounds_toArray, List.set_cons_zero, List.set_cons_succ, vagg]
        generalize ((((w2.setCell ⟨w.heap.size, 0, none⟩ (.int .i64 k)).setCell ⟨w.heap.size, 1, none⟩ (.string s1)).setCell ⟨w.heap.size, 2, none⟩ (.slice a1 n1 c1)).setCell ⟨w.heap.size, 3, none⟩ (.slice a2 n2 c2)) = w3 at *
        clear pf0 pf1 pf2 pf3 pc0 pc1 pc2 pc3 qf0 qf1 qf2 qf3 qc0 qc1 qc2 qc3 pl ql
        refine wpAnyH_ready (rs := [5]) (by kernel_rfl) (by simp) ?_
        refine AllReadyH.cons rfl (fun K9 hK => ?_) AllReadyH.nil
        have pf0 := HP3.out.frozen 0
        have pc0 : w3.cell? ⟨w.heap.size, 0, none⟩ = some (.int .i64 k) := HP3.out.cell 0
        have pf1 := HP3.out.frozen 1
        have pc1 : w3.cell? ⟨w.heap.size, 1, none⟩ = some (.string s1) := HP3.out.cell 1
        have pf2 := HP3.out.frozen 2
        have pc2 : w3.cell? ⟨w.heap.size, 2, none⟩ = some (.slice a1 n1 c1) := HP3.out.cell 2
        have pf3 := HP3.out.frozen 3
        have pc3 : w3.cell? ⟨w.heap.size, 3, none⟩ = some (.slice a2 n2 c2) := HP3.out.cell 3
        have pl := HP3.out.lt
        have qf0 := HQ3.out.frozen 0
        have qc0 : w3.cell? ⟨w.heap.size + 1, 0, none⟩ = some (.int .i64 k') := HQ3.out.cell 0
        have qf1 := HQ3.out.frozen 1
        have qc1 : w3.cell? ⟨w.heap.size + 1, 1, none⟩ = some (.string s') := HQ3.out.cell 1
        have qf2 := HQ3.out.frozen 2
        have qc2 : w3.cell? ⟨w.heap.size + 1, 2, none⟩ = some (.slice ka' kn' kc') := HQ3.out.cell 2
        have qf3 := HQ3.out.frozen 3
        have qc3 : w3.cell? ⟨w.heap.size + 1, 3, none⟩ = some (.slice la' ln' lc') := HQ3.out.cell 3
        have ql := HQ3.out.lt
        go_simp
        have HQ4 := hide (resJ_v HQ3.out (.int .i64 k') (.string s1') (.slice a1' n1' c1') (.slice a2' n2' c2'))
        have HP4 := hide (box_off4 HP3.out (show w.heap.size ≠ w.heap.size + 1 by omega) (.int .i64 k') (.string s1') (.slice a1' n1' c1') (.slice a2' n2' c2'))
        have HB4 := hide (below4 HB3.out (Nat.le_succ _) (.int .i64 k') (.string s1') (.slice a1' n1' c1') (.slice a2' n2' c2'))
        refine hK.out _ _ trivial (fun _ => ?_)
        clear hK K9
        try simp only [Act.put, List.setIfInBounds_toArray, List.set_cons_zero, List.set_cons_succ, vagg]
        generalize ((((w3.setCell ⟨w.heap.size + 1, 0, none⟩ (.int .i64 k')).setCell ⟨w.heap.size + 1, 1, none⟩ (.string s1')).setCell ⟨w.heap.size + 1, 2, none⟩ (.slice a1' n1' c1')).setCell ⟨w.heap.size + 1, 3, none⟩ (.slice a2' n2' c2')) = w4 at *
        clear pf0 pf1 pf2 pf3 pc0 pc1 pc2 pc3 qf0 qf1 qf2 qf3 qc0 qc1 qc2 qc3 pl ql
        refine wpAnyH_done (by kernel_rfl) ?_ _
        have pf0 := HP4.out.frozen 0
        have pc0 : w4.cell? ⟨w.heap.size, 0, none⟩ = some (.int .i64 k) := HP4.out.cell 0
        have pf1 := HP4.out.frozen 1
        have pc1 : w4.cell? ⟨w.heap.size, 1, none⟩ = some (.string s1) := HP4.out.cell 1
        have pf2 := HP4.out.frozen 2
        have pc2 : w4.cell? ⟨w.heap.size, 2, none⟩ = some (.slice a1 n1 c1) := HP4.out.cell 2
        have pf3 := HP4.out.frozen 3
        have pc3 : w4.cell? ⟨w.heap.size, 3, none⟩ = some (.slice a2 n2 c2) := HP4.out.cell 3
        have pl := HP4.out.lt
        have qf0 := HQ4.out.frozen 0
        have qc0 : w4.cell? ⟨w.heap.size + 1, 0, none⟩ = some (.int .i64 k') := HQ4.out.cell 0
        have qf1 := HQ4.out.frozen 1
        have qc1 : w4.cell? ⟨w.heap.size + 1, 1, none⟩ = some (.string s1') := HQ4.out.cell 1
        have qf2 := HQ4.out.frozen 2
        have qc2 : w4.cell? ⟨w.heap.size + 1, 2, none⟩ = some (.slice a1' n1' c1') := HQ4.out.cell 2
        have qf3 := HQ4.out.frozen 3
        have qc3 : w4.cell? ⟨w.heap.size + 1, 3, none⟩ = some (.slice a2' n2' c2') := HQ4.out.cell 3
        have ql := HQ4.out.lt
        by_cases hk : k = k'
        rotate_left
        · have d1 : (k == k') = false := by simpa using hk
          have HKK := hide hk
          clear hk
          go_wp2
          go_ret
          refine ⟨?_, HB4.out⟩
          have hR : R = false := Bool.eq_false_iff.2 (fun h => HKK.out ((HEQ.out.1 h).1))
          rw [hR]
          rfl
        subst hk
        by_cases hs : s1 = s1'
        rotate_left
        · have d1 : (s1.toList == s1'.toList) = false := str_ne hs
          have HKK := hide hs
          clear hs
          go_wp2
          go_ret
          refine ⟨?_, HB4.out⟩
          have hR : R = false := Bool.eq_false_iff.2 (fun h => HKK.out ((HEQ.out.1 h).2.1))
          rw [hR]
          rfl
        subst hs
        have hse : (s1.toList == s1.toList) = true := by simp
        go_wp2_with fail
        refine (HSEQ.out w4 HB4.out).mono ?_
        rintro e w5 ⟨rfl, hb5⟩
        have HP5 := hide (HP4.out.below hb5)
        have HQ5 := hide (HQ4.out.below hb5)
        have HB5 := hide (HB4.out.trans (hb5.mono HB4.out.size))
        clear hb5
        clear pf0 pf1 pf2 pf3 pc0 pc1 pc2 pc3 qf0 qf1 qf2 qf3 qc0 qc1 qc2 qc3 pl ql
        have pf0 := HP5.out.frozen 0
        have pc0 : w5.cell? ⟨w.heap.size, 0, none⟩ = some (.int .i64 k) := HP5.out.cell 0
        have pf1 := HP5.out.frozen 1
        have pc1 : w5.cell? ⟨w.heap.size, 1, none⟩ = some (.string s1) := HP5.out.cell 1
        have pf2 := HP5.out.frozen 2
        have pc2 : w5.cell? ⟨w.heap.size, 2, none⟩ = some (.slice a1 n1 c1) := HP5.out.cell 2
        have pf3 := HP5.out.frozen 3
        have pc3 : w5.cell? ⟨w.heap.size, 3, none⟩ = some (.slice a2 n2 c2) := HP5.out.cell 3
        have pl := HP5.out.lt
        have qf0 := HQ5.out.frozen 0
        have qc0 : w5.cell? ⟨w.heap.size + 1, 0, none⟩ = some (.int .i64 k) := HQ5.out.cell 0
        have qf1 := HQ5.out.frozen 1
        have qc1 : w5.cell? ⟨w.heap.size + 1, 1, none⟩ = some (.string s1) := HQ5.out.cell 1
        have qf2 := HQ5.out.frozen 2
        have qc2 : w5.cell? ⟨w.heap.size + 1, 2, none⟩ = some (.slice a1' n1' c1') := HQ5.out.cell 2
        have qf3 := HQ5.out.frozen 3
        have qc3 : w5.cell? ⟨w.heap.size + 1, 3, none⟩ = some (.slice a2' n2' c2') := HQ5.out.cell 3
        have ql := HQ5.out.lt
        by_cases hKK : K1 = K1'
        rotate_left
        · rw [decide_eq_false hKK]
          have HKK := hide hKK
          clear hKK
          go_wp2
          go_ret
          refine ⟨?_, HB5.out⟩
          have hR : R = false := Bool.eq_false_iff.2 (fun h => HKK.out ((HEQ.out.1 h).2.2.1))
          rw [hR]
          rfl
        rw [decide_eq_true hKK]
        have HKK := hide hKK
        clear hKK
        go_wp2_with fail
        refine (HEFN.out w5 HB5.out).mono ?_
        rintro e w6 ⟨r, rfl, hr, hb6⟩
        have HB6 := hide (HB5.out.trans (hb6.mono HB5.out.size))
        have HRR := hide hr
        clear hb6 hr
        clear pf0 pf1 pf2 pf3 pc0 pc1 pc2 pc3 qf0 qf1 qf2 qf3 qc0 qc1 qc2 qc3 pl ql
        go_wp2
        go_ret
        refine ⟨?_, HB6.out⟩
        have hR : R = r := Bool.eq_iff_iff.2 ⟨fun h => HRR.out.2 (HEQ.out.1 h).2.2.2, fun h => HEQ.out.2 ⟨trivial, trivial, HKK.out, HRR.out.1 h⟩⟩
        rw [hR]
        rfl
      · have pf0 := HPD.out.frozen 0
        have pc0 : wd.cell? ⟨w.heap.size, 0, none⟩ = some (.int .i64 k) := HPD.out.cell 0
        have pf1 := HPD.out.frozen 1
        have pc1 : wd.cell? ⟨w.heap.size, 1, none⟩ = some (.string s) := HPD.out.cell 1
        have pf2 := HPD.out.frozen 2
        have pc2 : wd.cell? ⟨w.heap.size, 2, none⟩ = some (.slice ka kn kc) := HPD.out.cell 2
        have pf3 := HPD.out.frozen 3
        have pc3 : wd.cell? ⟨w.heap.size, 3, none⟩ = some (.slice la ln lc) := HPD.out.cell 3
        have pl := HPD.out.lt
        have qf0 := HQD.out.frozen 0
        have qc0 : wd.cell? ⟨w.heap.size + 1, 0, none⟩ = some (.int .i64 k') := HQD.out.cell 0
        have qf1 := HQD.out.frozen 1
        have qc1 : wd.cell? ⟨w.heap.size + 1, 1, none⟩ = some (.string s') := HQD.out.cell 1
        have qf2 := HQD.out.frozen 2
        have qc2 : wd.cell? ⟨w.heap.size + 1, 2, none⟩ = some (.slice ka' kn' kc') := HQD.out.cell 2
        have qf3 := HQD.out.frozen 3
        have qc3 : wd.cell? ⟨w.heap.size + 1, 3, none⟩ = some (.slice la' ln' lc') := HQD.out.cell 3
        have ql := HQD.out.lt
        go_simp
        refine hK.out _ _ trivial (fun _ => ?_)
        clear hK K9
        clear pf0 pf1 pf2 pf3 pc0 pc1 pc2 pc3 qf0 qf1 qf2 qf3 qc0 qc1 qc2 qc3 pl ql
        try simp only [Act.put, List.setIfInBounds_toArray, List.set_cons_zero, List.set_cons_succ, vagg]
        refine wpAnyH_ready (rs := [1]) (by kernel_rfl) (by simp) ?_
        refine AllReadyH.cons rfl (fun K9 hK => ?_) AllReadyH.nil
        go_simp
        refine (HCX.out _).mono ?_
        rintro e w1 ⟨rfl, hB9⟩
        have HP1 := hide (HPD.out.below hB9)
        have HQ1 := hide (HQD.out.below hB9)
        have HB1 := hide (HBD.out.trans (hB9.mono HBD.out.size))
        refine hK.out _ _ trivial (fun _ => ?_)
        clear hK K9 hB9
        try simp only [Act.put, List.setIfInBounds_toArray, List.set_cons_zero, List.set_cons_succ, vagg]
        refine wpAnyH_ready (rs := [3]) (by kernel_rfl) (by simp) ?_
        refine AllReadyH.cons rfl (fun K9 hK => ?_) AllReadyH.nil
        go_simp
        refine (HCY.out _).mono ?_
        rintro e w2 ⟨rfl, hB9⟩
        have HP2 := hide (HP1.out.below hB9)
        have HQ2 := hide (HQ1.out.below hB9)
        have HB2 := hide (HB1.out.trans (hB9.mono HB1.out.size))
        refine hK.out _ _ trivial (fun _ => ?_)
        clear hK K9 hB9
        try simp only [Act.put, List.setIfInBounds_toArray, List.set_cons_zero, List.set_cons_succ, vagg]
        refine wpAnyH_ready (rs := [4]) (by kernel_rfl) (by simp) ?_
        refine AllReadyH.cons rfl (fun K9 hK => ?_) AllReadyH.nil
        have pf0 := HP2.out.frozen 0
        have pc0 : w2.cell? ⟨w.heap.size, 0, none⟩ = some (.int .i64 k) := HP2.out.cell 0
        have pf1 := HP2.out.frozen 1
        have pc1 : w2.cell? ⟨w.heap.size, 1, none⟩ = some (.string s) := HP2.out.cell 1
        have pf2 := HP2.out.frozen 2
        have pc2 : w2.cell? ⟨w.heap.size, 2, none⟩ = some (.slice ka kn kc) := HP2.out.cell 2
        have pf3 := HP2.out.frozen 3
        have pc3 : w2.cell? ⟨w.heap.size, 3, none⟩ = some (.slice la ln lc) := HP2.out.cell 3
        have pl := HP2.out.lt
        have qf0 := HQ2.out.frozen 0
        have qc0 : w2.cell? ⟨w.heap.size + 1, 0, none⟩ = some (.int .i64 k') := HQ2.out.cell 0
        have qf1 := HQ2.out.frozen 1
        have qc1 : w2.cell? ⟨w.heap.size + 1, 1, none⟩ = some (.string s') := HQ2.out.cell 1
        have qf2 := HQ2.out.frozen 2
        have qc2 : w2.cell? ⟨w.heap.size + 1, 2, none⟩ = some (.slice ka' kn' kc') := HQ2.out.cell 2
        have qf3 := HQ2.out.frozen 3
        have qc3 : w2.cell? ⟨w.heap.size + 1, 3, none⟩ = some (.slice la' ln' lc') := HQ2.out.cell 3
        have ql := HQ2.out.lt
        go_simp
        have HP3 := hide (resJ_v HP2.out (.int .i64 k) (.string s1) (.slice a1 n1 c1) (.slice a2 n2 c2))
        have HQ3 := hide (box_off4 HQ2.out (show w.heap.size + 1 ≠ w.heap.size by omega) (.int .i64 k) (.string s1) (.slice a1 n1 c1) (.slice a2 n2 c2))
        have HB3 := hide (below4 HB2.out (Nat.le_refl _) (.int .i64 k) (.string s1) (.slice a1 n1 c1) (.slice a2 n2 c2))
        refine hK.out _ _ trivial (fun _ => ?_)
        clear hK K9
        try simp only [Act.put, List.setIfInBounds_toArray, List.set_cons_zero, List.set_cons_succ, vagg]
        generalize ((((w2.setCell ⟨w.heap.size, 0, none⟩ (.int .i64 k)).setCell ⟨w.heap.size, 1, none⟩ (.string s1)).setCell ⟨w.heap.size, 2, none⟩ (.slice a1 n1 c1)).setCell ⟨w.heap.size, 3, none⟩ (.slice a2 n2 c2)) = w3 at *
        clear pf0 pf1 pf2 pf3 pc0 pc1 pc2 pc3 qf0 qf1 qf2 qf3 qc0 qc1 qc2 qc3 pl ql
        refine wpAnyH_ready (rs := [5]) (by kernel_rfl) (by simp) ?_
        refine AllReadyH.cons rfl (fun K9 hK => ?_) AllReadyH.nil
        have pf0 := HP3.out.frozen 0
        have pc0 : w3.cell? ⟨w.heap.size, 0, none⟩ = some (.int .i64 k) := HP3.out.cell 0
        have pf1 := HP3.out.frozen 1
        have pc1 : w3.cell? ⟨w.heap.size, 1, none⟩ = some (.string s1) := HP3.out.cell 1
        have pf2 := HP3.out.frozen 2
        have pc2 : w3.cell? ⟨w.heap.size, 2, none⟩ = some (.slice a1 n1 c1) := HP3.out.cell 2
        have pf3 := HP3.out.frozen 3
        have pc3 : w3.cell? ⟨w.heap.size, 3, none⟩ = some (.slice a2 n2 c2) := HP3.out.cell 3
        have pl := HP3.out.lt
        have qf0 := HQ3.out.frozen 0
        have qc0 : w3.cell? ⟨w.heap.size + 1, 0, none⟩ = some (.int .i64 k') := HQ3.out.cell 0
        have qf1 := HQ3.out.frozen 1
        have qc1 : w3.cell? ⟨w.heap.size + 1, 1, none⟩ = some (.string s') := HQ3.out.cell 1
        have qf2 := HQ3.out.frozen 2
        have qc2 : w3.cell? ⟨w.heap.size + 1, 2, none⟩ = some (.slice ka' kn' kc') := HQ3.out.cell 2
        have qf3 := HQ3.out.frozen 3
        have qc3 : w3.cell? ⟨w.heap.size + 1, 3, none⟩ = some (.slice la' ln' lc') := HQ3.out.cell 3
        have ql := HQ3.out.lt
        go_simp
        have HQ4 := hide (resJ_v HQ3.out (.int .i64 k') (.string s1') (.slice a1' n1' c1') (.slice a2' n2' c2'))
        have HP4 := hide (box_off4 HP3.out (show w.heap.size ≠ w.heap.size + 1 by omega) (.int .i64 k') (.string s1') (.slice a1' n1' c1') (.slice a2' n2' c2'))
        have HB4 := hide (below4 HB3.out (Nat.le_succ _) (.int .i64 k') (.string s1') (.slice a1' n1' c1') (.slice a2' n2' c2'))
        refine hK.out _ _ trivial (fun _ => ?_)
        clear hK K9
        try simp only [Act.put, List.setIfInBounds_toArray, List.set_cons_zero, List.set_cons_succ, vagg]
        generalize ((((w3.setCell ⟨w.heap.size + 1, 0, none⟩ (.int .i64 k')).setCell ⟨w.heap.size + 1, 1, none⟩ (.string s1')).setCell ⟨w.heap.size + 1, 2, none⟩ (.slice a1' n1' c1')).setCell ⟨w.heap.size + 1, 3, none⟩ (.slice a2' n2' c2')) = w4 at *
        clear pf0 pf1 pf2 pf3 pc0 pc1 pc2 pc3 qf0 qf1 qf2 qf3 qc0 qc1 qc2 qc3 pl ql
        refine wpAnyH_done (by kernel_rfl) ?_ _
        have pf0 := HP4.out.frozen 0
        have pc0 : w4.cell? ⟨w.heap.size, 0, none⟩ = some (.int .i64 k) := HP4.out.cell 0
        have pf1 := HP4.out.frozen 1
        have pc1 : w4.cell? ⟨w.heap.size, 1, none⟩ = some (.string s1) := HP4.out.cell 1
        have pf2 := HP4.out.frozen 2
        have pc2 : w4.cell? ⟨w.heap.size, 2, none⟩ = some (.slice a1 n1 c1) := HP4.out.cell 2
        have pf3 := HP4.out.frozen 3
        have pc3 : w4.cell? ⟨w.heap.size, 3, none⟩ = some (.slice a2 n2 c2) := HP4.out.cell 3
        have pl := HP4.out.lt
        have qf0 := HQ4.out.frozen 0
        have qc0 : w4.cell? ⟨w.heap.size + 1, 0, none⟩ = some (.int .i64 k') := HQ4.out.cell 0
        have qf1 := HQ4.out.frozen 1
        have qc1 : w4.cell? ⟨w.heap.size + 1, 1, none⟩ = some (.string s1') := HQ4.out.cell 1
        have qf2 := HQ4.out.frozen 2
        have qc2 : w4.cell? ⟨w.heap.size + 1, 2, none⟩ = some (.slice a1' n1' c1') := HQ4.out.cell 2
        have qf3 := HQ4.out.frozen 3
        have qc3 : w4.cell? ⟨w.heap.size + 1, 3, none⟩ = some (.slice a2' n2' c2') := HQ4.out.cell 3
        have ql := HQ4.out.lt
        by_cases hk : k = k'
        rotate_left
        · have d1 : (k == k') = false := by simpa using hk
          have HKK := hide hk
          clear hk
          go_wp2
          go_ret
          refine ⟨?_, HB4.out⟩
          have hR : R = false := Bool.eq_false_iff.2 (fun h => HKK.out ((HEQ.out.1 h).1))
          rw [hR]
          rfl
        subst hk
        by_cases hs : s1 = s1'
        rotate_left
        · have d1 : (s1.toList == s1'.toList) = false := str_ne hs
          have HKK := hide hs
          clear hs
          go_wp2
          go_ret
          refine ⟨?_, HB4.out⟩
          have hR : R = false := Bool.eq_false_iff.2 (fun h => HKK.out ((HEQ.out.1 h).2.1))
          rw [hR]
          rfl
        subst hs
        have hse : (s1.toList == s1.toList) = true := by simp
        go_wp2_with fail
        refine (HSEQ.out w4 HB4.out).mono ?_
        rintro e w5 ⟨rfl, hb5⟩
        have HP5 := hide (HP4.out.below hb5)
        have HQ5 := hide (HQ4.out.below hb5)
        have HB5 := hide (HB4.out.trans (hb5.mono HB4.out.size))
        clear hb5
        clear pf0 pf1 pf2 pf3 pc0 pc1 pc2 pc3 qf0 qf1 qf2 qf3 qc0 qc1 qc2 qc3 pl ql
        have pf0 := HP5.out.frozen 0
        have pc0 : w5.cell? ⟨w.heap.size, 0, none⟩ = some (.int .i64 k) := HP5.out.cell 0
        have pf1 := HP5.out.frozen 1
        have pc1 : w5.cell? ⟨w.heap.size, 1, none⟩ = some (.string s1) := HP5.out.cell 1
        have pf2 := HP5.out.frozen 2
        have pc2 : w5.cell? ⟨w.heap.size, 2, none⟩ = some (.slice a1 n1 c1) := HP5.out.cell 2
        have pf3 := HP5.out.frozen 3
        have pc3 : w5.cell? ⟨w.heap.size, 3, none⟩ = some (.slice a2 n2 c2) := HP5.out.cell 3
        have pl := HP5.out.lt
        have qf0 := HQ5.out.frozen 0
        have qc0 : w5.cell? ⟨w.heap.size + 1, 0, none⟩ = some (.int .i64 k) := HQ5.out.cell 0
        have qf1 := HQ5.out.frozen 1
        have qc1 : w5.cell? ⟨w.heap.size + 1, 1, none⟩ = some (.string s1) := HQ5.out.cell 1
        have qf2 := HQ5.out.frozen 2
        have qc2 : w5.cell? ⟨w.heap.size + 1, 2, none⟩ = some (.slice a1' n1' c1') := HQ5.out.cell 2
        have qf3 := HQ5.out.frozen 3
        have qc3 : w5.cell? ⟨w.heap.size + 1, 3, none⟩ = some (.slice a2' n2' c2') := HQ5.out.cell 3
        have ql := HQ5.out.lt
        by_cases hKK : K1 = K1'
        rotate_left
        · rw [decide_eq_false hKK]
          have HKK := hide hKK
          clear hKK
          go_wp2
          go_ret
          refine ⟨?_, HB5.out⟩
          have hR : R = false := Bool.eq_false_iff.2 (fun h => HKK.out ((HEQ.out.1 h).2.2.1))
          rw [hR]
          rfl
        rw [decide_eq_true hKK]
        have HKK := hide hKK
        clear hKK
        go_wp2_with fail
        refine (HEFN.out w5 HB5.out).mono ?_
        rintro e w6 ⟨r, rfl, hr, hb6⟩
        have HB6 := hide (HB5.out.trans (hb6.mono HB5.out.size))
        have HRR := hide hr
        clear hb6 hr
        clear pf0 pf1 pf2 pf3 pc0 pc1 pc2 pc3 qf0 qf1 qf2 qf3 qc0 qc1 qc2 qc3 pl ql
        go_wp2
        go_ret
        refine ⟨?_, HB6.out⟩
        have hR : R = r := Bool.eq_iff_iff.2 ⟨fun h => HRR.out.2 (HEQ.out.1 h).2.2.2, fun h => HEQ.out.2 ⟨trivial, trivial, HKK.out, HRR.out.1 h⟩⟩
        rw [hR]
        rfl
    · have pf0 := HPD.out.frozen 0
      have pc0 : wd.cell? ⟨w.heap.size, 0, none⟩ = some (.int .i64 k) := HPD.out.cell 0
      have pf1 := HPD.out.frozen 1
      have pc1 : wd.cell? ⟨w.heap.size, 1, none⟩ = some (.string s) := HPD.out.cell 1
      have pf2 := HPD.out.frozen 2
      have pc2 : wd.cell? ⟨w.heap.size, 2, none⟩ = some (.slice ka kn kc) := HPD.out.cell 2
      have pf3 := HPD.out.frozen 3
      have pc3 : wd.cell? ⟨w.heap.size, 3, none⟩ = some (.slice la ln lc) := HPD.out.cell 3
      have pl := HPD.out.lt
      have qf0 := HQD.out.frozen 0
      have qc0 : wd.cell? ⟨w.heap.size + 1, 0, none⟩ = some (.int .i64 k') := HQD.out.cell 0
      have qf1 := HQD.out.frozen 1
      have qc1 : wd.cell? ⟨w.heap.size + 1, 1, none⟩ = some (.string s') := HQD.out.cell 1
      have qf2 := HQD.out.frozen 2
      have qc2 : wd.cell? ⟨w.heap.size + 1, 2, none⟩ = some (.slice ka' kn' kc') := HQD.out.cell 2
      have qf3 := HQD.out.frozen 3
      have qc3 : wd.cell? ⟨w.heap.size + 1, 3, none⟩ = some (.slice la' ln' lc') := HQD.out.cell 3
      have ql := HQD.out.lt
      go_simp
      refine hK.out _ _ trivial (fun _ => ?_)
      clear hK K9
      clear pf0 pf1 pf2 pf3 pc0 pc1 pc2 pc3 qf0 qf1 qf2 qf3 qc0 qc1 qc2 qc3 pl ql
      try simp only [Act.put, List.setIfInBounds_toArray, List.set_cons_zero, List.set_cons_succ, vagg]
      refine wpAnyH_ready (rs := [0]) (by kernel_rfl) (by simp) ?_
      refine AllReadyH.cons rfl (fun K9 hK => ?_) AllReadyH.nil
      have pf0 := HPD.out.frozen 0
      have pc0 : wd.cell? ⟨w.heap.size, 0, none⟩ = some (.int .i64 k) := HPD.out.cell 0
      have pf1 := HPD.out.frozen 1
      have pc1 : wd.cell? ⟨w.heap.size, 1, none⟩ = some (.string s) := HPD.out.cell 1
      have pf2 := HPD.out.frozen 2
      have pc2 : wd.cell? ⟨w.heap.size, 2, none⟩ = some (.slice ka kn kc) := HPD.out.cell 2
      have pf3 := HPD.out.frozen 3
      have pc3 : wd.cell? ⟨w.heap.size, 3, none⟩ = some (.slice la ln lc) := HPD.out.cell 3
      have pl := HPD.out.lt
      have qf0 := HQD.out.frozen 0
      have qc0 : wd.cell? ⟨w.heap.size + 1, 0, none⟩ = some (.int .i64 k') := HQD.out.cell 0
      have qf1 := HQD.out.frozen 1
      have qc1 : wd.cell? ⟨w.heap.size + 1, 1, none⟩ = some (.string s') := HQD.out.cell 1
      have qf2 := HQD.out.frozen 2
      have qc2 : wd.cell? ⟨w.heap.size + 1, 2, none⟩ = some (.slice ka' kn' kc') := HQD.out.cell 2
      have qf3 := HQD.out.frozen 3
      have qc3 : wd.cell? ⟨w.heap.size + 1, 3, none⟩ = some (.slice la' ln' lc') := HQD.out.cell 3
      have ql := HQD.out.lt
      go_simp
      refine hK.out _ _ trivial (fun _ => ?_)
      clear hK K9
      clear pf0 pf1 pf2 pf3 pc0 pc1 pc2 pc3 qf0 qf1 qf2 qf3 qc0 qc1 qc2 qc3 pl ql
      try simp only [Act.put, List.setIfInBounds_toArray, List.set_cons_zero, List.set_cons_succ, vagg]
      refine wpAnyH_ready (rs := [1]) (by kernel_rfl) (by simp) ?_
      refine AllReadyH.cons rfl (fun K9 hK => ?_) AllReadyH.nil
      go_simp
      refine (HCX.out _).mono ?_
      rintro e w1 ⟨rfl, hB9⟩
      have HP1 := hide (HPD.out.below hB9)
      have HQ1 := hide (HQD.out.below hB9)
      have HB1 := hide (HBD.out.trans (hB9.mono HBD.out.size))
      refine hK.out _ _ trivial (fun _ => ?_)
      clear hK K9 hB9
      try simp only [Act.put, List.setIfInBounds_toArray, List.set_cons_zero, List.set_cons_succ, vagg]
      refine wpAnyH_ready (rs := [3]) (by kernel_rfl) (by simp) ?_
      refine AllReadyH.cons rfl (fun K9 hK => ?_) AllReadyH.nil
      go_simp
      refine (HCY.out _).mono ?_
      rintro e w2 ⟨rfl, hB9⟩
      have HP2 := hide (HP1.out.below hB9)
      have HQ2 := hide (HQ1.out.below hB9)
      have HB2 := hide (HB1.out.trans (hB9.mono HB1.out.size))
      refine hK.out _ _ trivial (fun _ => ?_)
      clear hK K9 hB9
      try simp only [Act.put, List.setIfInBounds_toArray, List.set_cons_zero, List.set_cons_succ, vagg]
      refine wpAnyH_ready (rs := [4]) (by kernel_rfl) (by simp) ?_
      refine AllReadyH.cons rfl (fun K9 hK => ?_) AllReadyH.nil
      have pf0 := HP2.out.frozen 0
      have pc0 : w2.cell? ⟨w.heap.size, 0, none⟩ = some (.int .i64 k) := HP2.out.cell 0
      have pf1 := HP2.out.frozen 1
      have pc1 : w2.cell? ⟨w.heap.size, 1, none⟩ = some (.string s) := HP2.out.cell 1
      have pf2 := HP2.out.frozen 2
      have pc2 : w2.cell? ⟨w.heap.size, 2, none⟩ = some (.slice ka kn kc) := HP2.out.cell 2
      have pf3 := HP2.out.frozen 3
      have pc3 : w2.cell? ⟨w.heap.size, 3, none⟩ = some (.slice la ln lc) := HP2.out.cell 3
      have pl := HP2.out.lt
      have qf0 := HQ2.out.frozen 0
      have qc0 : w2.cell? ⟨w.heap.size + 1, 0, none⟩ = some (.int .i64 k') := HQ2.out.cell 0
      have qf1 := HQ2.out.frozen 1
      have qc1 : w2.cell? ⟨w.heap.size + 1, 1, none⟩ = some (.string s') := HQ2.out.cell 1
      have qf2 := HQ2.out.frozen 2
      have qc2 : w2.cell? ⟨w.heap.size + 1, 2, none⟩ = some (.slice ka' kn' kc') := HQ2.out.cell 2
      have qf3 := HQ2.out.frozen 3
      have qc3 : w2.cell? ⟨w.heap.size + 1, 3, none⟩ = some (.slice la' ln' lc') := HQ2.out.cell 3
      have ql := HQ2.out.lt
      go_simp
      have HP3 := hide (resJ_v HP2.out (.int .i64 k) (.string s1) (.slice a1 n1 c1) (.slice a2 n2 c2))
      have HQ3 := hide (box_off4 HQ2.out (show w.heap.size + 1 ≠ w.heap.size by omega) (.int .i64 k) (.string s1) (.slice a1 n1 c1) (.slice a2 n2 c2))
      have HB3 := hide (below4 HB2.out (Nat.le_refl _) (.int .i64 k) (.string s1) (.slice a1 n1 c1) (.slice a2 n2 c2))
      refine hK.out _ _ trivial (fun _ => ?_)
      clear hK K9
      try simp only [Act.put, List.setIfInBounds_toArray, List.set_cons_zero, List.set_cons_succ, vagg]
      generalize ((((w2.setCell ⟨w.heap.size, 0, none⟩ (.int .i64 k)).setCell ⟨w.heap.size, 1, none⟩ (.string s1)).setCell ⟨w.heap.size, 2, none⟩ (.slice a1 n1 c1)).setCell ⟨w.heap.size, 3, none⟩ (.slice a2 n2 c2)) = w3 at *
      clear pf0 pf1 pf2 pf3 pc0 pc1 pc2 pc3 qf0 qf1 qf2 qf3 qc0 qc1 qc2 qc3 pl ql
      refine wpAnyH_ready (rs := [5]) (by kernel_rfl) (by simp) ?_
      refine AllReadyH.cons rfl (fun K9 hK => ?_) AllReadyH.nil
      have pf0 := HP3.out.frozen 0
      have pc0 : w3.cell? ⟨w.heap.size, 0, none⟩ = some (.int .i64 k) := HP3.out.cell 0
      have pf1 := HP3.out.frozen 1
      have pc1 : w3.cell? ⟨w.heap.size, 1, none⟩ = some (.string s1) := HP3.out.cell 1
      have pf2 := HP3.out.frozen 2
      have pc2 : w3.cell? ⟨w.heap.size, 2, none⟩ = some (.slice a1 n1 c1) := HP3.out.cell 2
      have pf3 := HP3.out.frozen 3
      have pc3 : w3.cell? ⟨w.heap.size, 3, none⟩ = some (.slice a2 n2 c2) := HP3.out.cell 3
      have pl := HP3.out.lt
      have qf0 := HQ3.out.frozen 0
      have qc0 : w3.cell? ⟨w.heap.size + 1, 0, none⟩ = some (.int .i64 k') := HQ3.out.cell 0
      have qf1 := HQ3.out.frozen 1
      have qc1 : w3.cell? ⟨w.heap.size + 1, 1, none⟩ = some (.string s') := HQ3.out.cell 1
      have qf2 := HQ3.out.frozen 2
      have qc2 : w3.cell? ⟨w.heap.size + 1, 2, none⟩ = some (.slice ka' kn' kc') := HQ3.out.cell 2
      have qf3 := HQ3.out.frozen 3
      have qc3 : w3.cell? ⟨w.heap.size + 1, 3, none⟩ = some (.slice la' ln' lc') := HQ3.out.cell 3
      have ql := HQ3.out.lt
      go_simp
      have HQ4 := hide (resJ_v HQ3.out (.int .i64 k') (.string s1') (.slice a1' n1' c1') (.slice a2' n2' c2'))
      have HP4 := hide (box_off4 HP3.out (show w.heap.size ≠ w.heap.size + 1 by omega) (.int .i64 k') (.string s1') (.slice a1' n1' c1') (.slice a2' n2' c2'))
      have HB4 := hide (below4 HB3.out (Nat.le_succ _) (.int .i64 k') (.string s1') (.slice a1' n1' c1') (.slice a2' n2' c2'))
      refine hK.out _ _ trivial (fun _ => ?_)
      clear hK K9
      try simp only [Act.put, List.setIfInBounds_toArray, List.set_cons_zero, List.set_cons_succ, vagg]
      generalize ((((w3.setCell ⟨w.heap.size + 1, 0, none⟩ (.int .i64 k')).setCell ⟨w.heap.size + 1, 1, none⟩ (.string s1')).setCell ⟨w.heap.size + 1, 2, none⟩ (.slice a1' n1' c1')).setCell ⟨w.heap.size + 1, 3, none⟩ (.slice a2' n2' c2')) = w4 at *
      clear pf0 pf1 pf2 pf3 pc0 pc1 pc2 pc3 qf0 qf1 qf2 qf3 qc0 qc1 qc2 qc3 pl ql
      refine wpAnyH_done (by kernel_rfl) ?_ _
      have pf0 := HP4.out.frozen 0
      have pc0 : w4.cell? ⟨w.heap.size, 0, none⟩ = some (.int .i64 k) := HP4.out.cell 0
      have pf1 := HP4.out.frozen 1
      have pc1 : w4.cell? ⟨w.heap.size, 1, none⟩ = some (.string s1) := HP4.out.cell 1
      have pf2 := HP4.out.frozen 2
      have pc2 : w4.cell? ⟨w.heap.size, 2, none⟩ = some (.slice a1 n1 c1) := HP4.out.cell 2
      have pf3 := HP4.out.frozen 3
      have pc3 : w4.cell? ⟨w.heap.size, 3, none⟩ = some (.slice a2 n2 c2) := HP4.out.cell 3
      have pl := HP4.out.lt
      have qf0 := HQ4.out.frozen 0
      have qc0 : w4.cell? ⟨w.heap.size + 1, 0, none⟩ = some (.int .i64 k') := HQ4.out.cell 0
      have qf1 := HQ4.out.frozen 1
      have qc1 : w4.cell? ⟨w.heap.size + 1, 1, none⟩ = some (.string s1') := HQ4.out.cell 1
      have qf2 := HQ4.out.frozen 2
      have qc2 : w4.cell? ⟨w.heap.size + 1, 2, none⟩ = some (.slice a1' n1' c1') := HQ4.out.cell 2
      have qf3 := HQ4.out.frozen 3
      have qc3 : w4.cell? ⟨w.heap.size + 1, 3, none⟩ = some (.slice a2' n2' c2') := HQ4.out.cell 3
      have ql := HQ4.out.lt
      by_cases hk : k = k'
      rotate_left
      · have d1 : (k == k') = false := by simpa using hk
        have HKK := hide hk
        clear hk
        go_wp2
        go_ret
        refine ⟨?_, HB4.out⟩
        have hR : R = false := Bool.eq_false_iff.2 (fun h => HKK.out ((HEQ.out.1 h).1))
        rw [hR]
        rfl
      subst hk
      by_cases hs : s1 = s1'
      rotate_left
      · have d1 : (s1.toList == s1'.toList) = false := str_ne hs
        have HKK := hide hs
        clear hs
        go_wp2
        go_ret
        refine ⟨?_, HB4.out⟩
        have hR : R = false := Bool.eq_false_iff.2 (fun h => HKK.out ((HEQ.out.1 h).2.1))
        rw [hR]
        rfl
      subst hs
      have hse : (s1.toList == s1.toList) = true := by simp
      go_wp2_with fail
      refine (HSEQ.out w4 HB4.out).mono ?_
      rintro e w5 ⟨rfl, hb5⟩
      have HP5 := hide (HP4.out.below hb5)
      have HQ5 := hide (HQ4.out.below hb5)
      have HB5 := hide (HB4.out.trans (hb5.mono HB4.out.size))
      clear hb5
      clear pf0 pf1 pf2 pf3 pc0 pc1 pc2 pc3 qf0 qf1 qf2 qf3 qc0 qc1 qc2 qc3 pl ql
      have pf0 := HP5.out.frozen 0
      have pc0 : w5.cell? ⟨w.heap.size, 0, none⟩ = some (.int .i64 k) := HP5.out.cell 0
      have pf1 := HP5.out.frozen 1
      have pc1 : w5.cell? ⟨w.heap.size, 1, none⟩ = some (.string s1) := HP5.out.cell 1
      have pf2 := HP5.out.frozen 2
      have pc2 : w5.cell? ⟨w.heap.size, 2, none⟩ = some (.slice a1 n1 c1) := HP5.out.cell 2
      have pf3 := HP5.out.frozen 3
      have pc3 : w5.cell? ⟨w.heap.size, 3, none⟩ = some (.slice a2 n2 c2) := HP5.out.cell 3
      have pl := HP5.out.lt
      have qf0 := HQ5.out.frozen 0
      have qc0 : w5.cell? ⟨w.heap.size + 1, 0, none⟩ = some (.int .i64 k) := HQ5.out.cell 0
      have qf1 := HQ5.out.frozen 1
      have qc1 : w5.cell? ⟨w.heap.size + 1, 1, none⟩ = some (.string s1) := HQ5.out.cell 1
      have qf2 := HQ5.out.frozen 2
      have qc2 : w5.cell? ⟨w.heap.size + 1, 2, none⟩ = some (.slice a1' n1' c1') := HQ5.out.cell 2
      have qf3 := HQ5.out.frozen 3
      have qc3 : w5.cell? ⟨w.heap.size + 1, 3, none⟩ = some (.slice a2' n2' c2') := HQ5.out.cell 3
      have ql := HQ5.out.lt
      by_cases hKK : K1 = K1'
      rotate_left
      · rw [decide_eq_false hKK]
        have HKK := hide hKK
        clear hKK
        go_wp2
        go_ret
        refine ⟨?_, HB5.out⟩
        have hR : R = false := Bool.eq_false_iff.2 (fun h => HKK.out ((HEQ.out.1 h).2.2.1))
        rw [hR]
        rfl
      rw [decide_eq_true hKK]
      have HKK := hide hKK
      clear hKK
      go_wp2_with fail
      refine (HEFN.out w5 HB5.out).mono ?_
      rintro e w6 ⟨r, rfl, hr, hb6⟩
      have HB6 := hide (HB5.out.trans (hb6.mono HB5.out.size))
      have HRR := hide hr
      clear hb6 hr
      clear pf0 pf1 pf2 pf3 pc0 pc1 pc2 pc3 qf0 qf1 qf2 qf3 qc0 qc1 qc2 qc3 pl ql
      go_wp2
      go_ret
      refine ⟨?_, HB6.out⟩
      have hR : R = r := Bool.eq_iff_iff.2 ⟨fun h => HRR.out.2 (HEQ.out.1 h).2.2.2, fun h => HEQ.out.2 ⟨trivial, trivial, HKK.out, HRR.out.1 h⟩⟩
      rw [hR]
      rfl

end Go.Proofs.YtbdpmpepmjpadaaGreatDoor

namespace Go.Proofs.YtbdpmpepmjpadaaGreatDoor
set_option linter.unusedVariables false
set_option linter.unusedSimpArgs false
set_option maxRecDepth 100000
open Go Go.RowKit Go.Shelf Go.Lib

theorem results_cf {fn : Func} {i j k : Tmp} (h : fn.results = #[.cell i 29, .cell j 31, .tmp k]) {tmps : Array Value} {W : World} {b b' : Nat} {c0 c1 c2 c3 c4 c5 c6 c7 c8 c9 f0 f1 f2 f3 f4 : Value} {t t' : TypeId} {ev : Value} (hp : tmps.getD i undef = .pointer (some ⟨b, 0, none⟩)) (hq : tmps.getD j undef = .pointer (some ⟨b', 0, none⟩)) (he : tmps.getD k undef = ev) (T : BoxC W b t #[c0, c1, c2, c3, c4, c5, c6, c7, c8, c9]) (T' : BoxC W b' t' #[f0, f1, f2, f3, f4]) :
    (results fn tmps).run Tryz.prog W = .ok (.tuple #[.agg #[c0, c1, c2, c3, c4, c5, c6, c7, c8, c9], .agg #[f0, f1, f2, f3, f4], ev]) W := by
  have a0 : W.cell? ⟨b, 0, none⟩ = some c0 := T.cell 0
  have a1 : W.cell? ⟨b, 1, none⟩ = some c1 := T.cell 1
  have a2 : W.cell? ⟨b, 2, none⟩ = some c2 := T.cell 2
  have a3 : W.cell? ⟨b, 3, none⟩ = some c3 := T.cell 3
  have a4 : W.cell? ⟨b, 4, none⟩ = some c4 := T.cell 4
  have a5 : W.cell? ⟨b, 5, none⟩ = some c5 := T.cell 5
  have a6 : W.cell? ⟨b, 6, none⟩ = some c6 := T.cell 6
  have a7 : W.cell? ⟨b, 7, none⟩ = some c7 := T.cell 7
  have a8 : W.cell? ⟨b, 8, none⟩ = some c8 := T.cell 8
  have a9 : W.cell? ⟨b, 9, none⟩ = some c9 := T.cell 9
  have b0 : W.cell? ⟨b', 0, none⟩ = some f0 := T'.cell 0
  have b1 : W.cell? ⟨b', 1, none⟩ = some f1 := T'.cell 1
  have b2 : W.cell? ⟨b', 2, none⟩ = some f2 := T'.cell 2
  have b3 : W.cell? ⟨b', 3, none⟩ = some f3 := T'.cell 3
  have b4 : W.cell? ⟨b', 4, none⟩ = some f4 := T'.cell 4
  have hp' : tmps[i]?.getD undef = .pointer (some ⟨b, 0, none⟩) := by simpa using hp
  have hq' : tmps[j]?.getD undef = .pointer (some ⟨b', 0, none⟩) := by simpa using hq
  have he' : tmps[k]?.getD undef = ev := by simpa using he
  simp [results, h, hp', hq', he', go_sem, a0, a1, a2, a3, a4, a5, a6, a7, a8, a9, b0, b1, b2, b3, b4]
theorem flat_is {W : World} {S : Nat → Prop} {y : JC} {x : JC} (h : TIn W S y (flatT x)) : ∃ ka kn kc la ln lc, y = (x.1, x.2.1, .slice ka kn kc, .slice la ln lc) := by
  obtain ⟨h1, h2⟩ := h.sl
  obtain ⟨k, s, kv, lv⟩ := x
  unfold flatT at h
  cases h with
  | mk k s kv la lc K L xs hK hc hsl ht =>
    simp only at h1 h2
    obtain ⟨ka, kn, kc, rfl⟩ := h1
    exact ⟨ka, kn, kc, la, _, lc, rfl⟩
theorem flat_lt (k : Int) (s : ByteArray) (h : s.size ≤ 1000) : LtT (.mk k s [] []) := .mk k s [] [] (by simp) (by simp) (fun _ => by omega) (fun i hi => by simp at hi)
theorem tree6_lt : LtT tree6 := .mk 6 ⟨#[]⟩ _ _ (by decide) (by decide) (by decide) (fun i hi => by
  match i, hi with
  | 0, _ => exact flat_lt _ _ (by decide)
  | 1, _ => exact flat_lt _ _ (by decide)
  | 2, _ => exact flat_lt _ _ (by decide))
theorem tree7_lt : LtT tree7 := .mk 5 ⟨#[]⟩ _ _ (by decide) (by decide) (by decide) (fun i hi => by
  match i, hi with
  | 0, _ => exact flat_lt _ _ (by decide))
def kParams : ByteArray := ⟨#[112, 97, 114, 97, 109, 115]⟩
theorem get6_id : getJ tree6 kId = some (flatT cOne) := by unfold getJ tree6; simp [fndK, show kJson ≠ kId by decide]
theorem get6_ver : getJ tree6 kJson = some (flatT cVer) := by unfold getJ tree6; simp [fndK]
theorem get6_method : getJ tree6 kMethod = some (flatT cM) := by unfold getJ tree6; simp [fndK, show kJson ≠ kMethod by decide, show kId ≠ kMethod by decide]
theorem get6_params : getJ tree6 kParams = none := by unfold getJ tree6; simp [fndK, show kJson ≠ kParams by decide, show kId ≠ kParams by decide, show kMethod ≠ kParams by decide]
theorem get7 (key : ByteArray) : getJ tree7 key = none := by unfold getJ tree7; simp
theorem clJ_one : clJ (flatT cOne) = flatT cOne := by unfold flatT cOne; rw [clJ_eq]; simp [sP, kP, lP, clJs]
theorem clJ_ver : clJ (flatT cVer) = flatT cVer := by unfold flatT cVer; rw [clJ_eq]; simp [sP, kP, lP, clJs]
theorem clJ_m : clJ (flatT cM) = flatT cM := by unfold flatT cM; rw [clJ_eq]; simp [sP, kP, lP, clJs]
theorem getT_lt {T : JT} (h : LtT T) (s : ByteArray) : LtT ((getJ T s).getD zeroT) := by
  have hz : LtT zeroT := .mk 0 ⟨#[]⟩ [] [] (by simp) (by simp) (by decide) (fun i hi => by simp at hi)
  obtain ⟨k, s0, K, L⟩ := T
  obtain ⟨_, _, _, _, hK, hL, hs, ht⟩ := h
  show LtT ((if k = 6 ∧ K.length = L.length then (fndK K s).bind (fun j => L[j]?) else none).getD zeroT)
  by_cases hc : k = 6 ∧ K.length = L.length
  · rw [if_pos hc]
    cases fndK K s with
    | none => exact hz
    | some j =>
      show LtT ((L[j]?).getD zeroT)
      rcases Nat.lt_or_ge j L.length with h | h
      · rw [List.getElem?_eq_getElem h]
        exact ht j h
      · rw [List.getElem?_eq_none h]
        exact hz
  · rw [if_neg hc]
    exact hz
theorem getT_clt {o : Option JT} (h : LtT (o.getD zeroT)) : LtT ((o.map clJ).getD zeroT) := by
  cases o with
  | none => exact h
  | some t => exact LtT.clone h
set_option maxHeartbeats 4000000 in
theorem isid_ok (w : World) (ka la : Option Addr) (kn kc ln lc : Nat) (hE : ErrS w) : Calls Tryz.prog 25 #[.agg #[.int .i64 3, .string sOne, .slice ka kn kc, .slice la ln lc]] w fun e w' => e = .returned (.bool true) ∧ Below w.heap.size w w' := by
  have hb := bel w (.cells #[.int .i64 3, .string sOne, .slice ka kn kc, .slice la ln lc] 27)
  have hp := BoxC.new w 27 #[.int .i64 3, .string sOne, .slice ka kn kc, .slice la ln lc]
  generalize hw0 : w.alloc (.cells #[.int .i64 3, .string sOne, .slice ka kn kc, .slice la ln lc] 27) = w0 at *
  have hj := jint_any w0 3 [49] (by decide) (by decide) ka la kn kc ln lc (hE.below hb)
  have hij : optV (intJ 3 [49]) = .tuple #[.int .i64 1, .bool true] := by kernel_rfl
  unfold IntR vagg at hj
  rw [hij] at hj
  simp only at hj
  rw [show strOf [49] = sOne from rfl] at hj
  have HJ := hide hj
  have v0 : w0.cell? ⟨w.heap.size, 0, none⟩ = some (.int .i64 3) := hp.cell 0
  have v1 : w0.cell? ⟨w.heap.size, 1, none⟩ = some (.string sOne) := hp.cell 1
  have v2 : w0.cell? ⟨w.heap.size, 2, none⟩ = some (.slice ka kn kc) := hp.cell 2
  have v3 : w0.cell? ⟨w.heap.size, 3, none⟩ = some (.slice la ln lc) := hp.cell 3
  have HW0 := hide hw0
  have HB1 := hide hb
  clear hw0 hp hb hE hj hij
  go_enter Tryz.func25, Tryz.ntmps25
  go_upto_region 1 with fail
  rw [HW0.out]
  clear HW0
  go_wp2_with fail
  refine HJ.out.mono ?_
  rintro e w1 ⟨rfl, hb1⟩
  have HB2 := hide (HB1.out.trans (hb1.mono HB1.out.size))
  clear hb1 v0 v1 v2 v3
  go_wp2
  go_ret
  exact ⟨rfl, HB2.out⟩

set_option maxHeartbeats 8000000 in
theorem hasv_any (w : World) {S : Nat → Prop} {x : JC} {T : JT} (o : Option JT) (hx : TIn w S x T) (hl : LtT T) (hg : getJ T kJson = o) (r : Bool) (hr : eqJ ((o.map clJ).getD zeroT) (flatT cVer) = r) : Calls Tryz.prog 26 #[vagg x] w fun e w' => e = .returned (.bool r) ∧ Below w.heap.size w w' := by
  obtain ⟨hs2, hs3⟩ := hx.sl
  obtain ⟨k, s, kv, lv⟩ := x
  obtain ⟨ka, kn, kc, rfl⟩ := hs2
  obtain ⟨la, ln, lc, rfl⟩ := hs3
  have hb := bel w (.cells #[.int .i64 k, .string s, .slice ka kn kc, .slice la ln lc] 27)
  have hp := BoxC.new w 27 #[.int .i64 k, .string s, .slice ka kn kc, .slice la ln lc]
  generalize hw0 : w.alloc (.cells #[.int .i64 k, .string s, .slice ka kn kc, .slice la ln lc] 27) = w0 at *
  have HGT := hide (get_any kJson w0 (hx.bel hb) hl)
  have HLT : Hid (LtT ((o.map clJ).getD zeroT)) := by
    have h := getT_lt hl kJson
    rw [hg] at h
    exact getT_clt h
  rw [hg] at HGT
  unfold vagg kJson at HGT
  unfold vagg
  simp only at HGT ⊢
  have v0 : w0.cell? ⟨w.heap.size, 0, none⟩ = some (.int .i64 k) := hp.cell 0
  have v1 : w0.cell? ⟨w.heap.size, 1, none⟩ = some (.string s) := hp.cell 1
  have v2 : w0.cell? ⟨w.heap.size, 2, none⟩ = some (.slice ka kn kc) := hp.cell 2
  have v3 : w0.cell? ⟨w.heap.size, 3, none⟩ = some (.slice la ln lc) := hp.cell 3
  have HW0 := hide hw0
  have HB1 := hide hb
  have HRR := hide hr
  clear hw0 hp hb hx hl hg hr
  go_enter Tryz.func26, Tryz.ntmps26
  go_upto_region 1 with fail
  rw [HW0.out]
  clear HW0
  go_wp2_with fail
  refine HGT.out.mono ?_
  rintro e w1 ⟨⟨yk, ys, yK, yL⟩, rfl, hb1, hT⟩
  obtain ⟨h4, h5⟩ := hT.sl
  simp only at h4 h5
  obtain ⟨ya, yn, yc, rfl⟩ := h4
  obtain ⟨yd, ye, yf, rfl⟩ := h5
  simp only [vagg]
  have hb2 := bel w1 (.cells #[.int .i64 yk, .string ys, .slice ya yn yc, .slice yd ye yf] 27)
  have hx2 := BoxC.new w1 27 #[.int .i64 yk, .string ys, .slice ya yn yc, .slice yd ye yf]
  have HT := hide (hT.bel hb2)
  have HB2 := hide (HB1.out.trans ((hb1.trans (hb2.mono hb1.size)).mono HB1.out.size))
  clear hb1 hb2 hT v0 v1 v2 v3 HGT
  go_upto_region 2 with fail
  generalize w1.heap.size = B1 at *
  generalize w1.alloc (.cells #[.int .i64 yk, .string ys, .slice ya yn yc, .slice yd ye yf] 27) = w2 at *
  have HS : Hid (∀ X0 : World, Below w2.heap.size w2 X0 → (X0.cell? ⟨B1, 0, none⟩ = some (.int .i64 yk) ∧ X0.cell? ⟨B1, 1, none⟩ = some (.string ys) ∧ X0.cell? ⟨B1, 2, none⟩ = some (.slice ya yn yc) ∧ X0.cell? ⟨B1, 3, none⟩ = some (.slice yd ye yf))) := fun X0 h => ⟨(hx2.below h).cell 0, (hx2.below h).cell 1, (hx2.below h).cell 2, (hx2.below h).cell 3⟩
  clear hx2
  refine wp_region_held_drew (S := fun X0 : World => X0.cell? ⟨B1, 0, none⟩ = some (.int .i64 yk) ∧ X0.cell? ⟨B1, 1, none⟩ = some (.string ys) ∧ X0.cell? ⟨B1, 2, none⟩ = some (.slice ya yn yc) ∧ X0.cell? ⟨B1, 3, none⟩ = some (.slice yd ye yf)) (by kernel_rfl) (HS.out _ (Below.refl _ _).drew) (fun hHeld => ?_)
  have HB : Hid (Below w2.heap.size w2 w2.drew) := (Below.refl _ _).drew
  generalize w2.drew = wd at *
  refine takeD (i := 0) (v := ?v1) (some 10) rfl (by kernel_rfl) (by kernel_rfl) (by kernel_rfl) (fun _ _ _ h => h) (Or.inl ⟨by rfl, ?hy1⟩) (HS.out _ HB.out) (by rfl) ?rest1
  case hy1 => first | (intro w hSw; (try dsimp only at hSw); obtain ⟨s0, s1, s2, s3⟩ := hSw; go_simp; done) | (intro w hSw; (try dsimp only at hSw); obtain ⟨s0, s1, s2, s3⟩ := hSw; go_simp; with_reducible rfl)
  try simp only [Act.put, List.setIfInBounds_toArray, List.set_cons_zero, List.set_cons_succ, vagg]
  refine wpAnyH_ready (rs := [1]) (by kernel_rfl) (by simp) ?_
  refine AllReadyH.cons rfl (fun K9 hK => ?_) AllReadyH.nil
  go_simp
  have hcall := text_calls wd sVer
  try unfold vagg at hcall
  try simp only at hcall
  refine hcall.mono ?_
  rintro e w3 ⟨rfl, hb9⟩
  have HB9 := hide (HB.out.trans (hb9.mono HB.out.size))
  clear hcall HB
  rename Hid (Below _ _ w3) => HB
  refine hK.out _ _ (HS.out _ HB.out) (fun _ => ?_)
  clear hK K9 hb9
  try simp only [Act.put, List.setIfInBounds_toArray, List.set_cons_zero, List.set_cons_succ, vagg]
  refine wpAnyH_ready (rs := [2]) (by kernel_rfl) (by simp) ?_
  refine AllReadyH.cons rfl (fun K9 hK => ?_) AllReadyH.nil
  go_simp
  have hcall := equal_any (HT.out.bel HB.out) HLT.out (flat_in w3 (fun _ => True) (x := cVer) ⟨rfl, rfl⟩) (flat_lt _ _ (by decide)) w3 (Below.refl _ _)
  try unfold vagg at hcall
  try simp only at hcall
  refine hcall.mono ?_
  rintro e w4 ⟨rfl, hb9⟩
  have HB9 := hide (HB.out.trans (hb9.mono HB.out.size))
  clear hcall HB
  rename Hid (Below _ _ w4) => HB
  refine hK.out _ _ (HS.out _ HB.out) (fun _ => ?_)
  clear hK K9 hb9
  try simp only [Act.put, List.setIfInBounds_toArray, List.set_cons_zero, List.set_cons_succ, vagg]
  refine takeD (i := 3) (v := ?v2) (some 2) rfl (by kernel_rfl) (by kernel_rfl) (by kernel_rfl) (fun _ _ _ h => h) (Or.inl ⟨by rfl, ?hy2⟩) (HS.out _ HB.out) (by rfl) ?rest2
  case hy2 => first | (intro w hSw; (try dsimp only at hSw); obtain ⟨s0, s1, s2, s3⟩ := hSw; go_simp; done) | (intro w hSw; (try dsimp only at hSw); obtain ⟨s0, s1, s2, s3⟩ := hSw; go_simp; with_reducible rfl)
  try simp only [Act.put, List.setIfInBounds_toArray, List.set_cons_zero, List.set_cons_succ, vagg]
  refine wpAnyH_done (by kernel_rfl) ?_ _
  go_wp2
  go_ret
  refine ⟨?_, HB2.out.trans (HB.out.mono HB2.out.size)⟩
  rw [← HRR.out]
  rfl

end Go.Proofs.YtbdpmpepmjpadaaGreatDoor

namespace Go.Proofs.YtbdpmpepmjpadaaGreatDoor
set_option linter.unusedVariables false
set_option linter.unusedSimpArgs false
set_option maxRecDepth 100000
open Go Go.RowKit Go.Shelf Go.Lib

theorem pairs_three {W : World} {B : Nat} {S : Nat → Prop} {k1 k2 k3 : ByteArray} {x y z : JC} {A C E : JT} (hb : BoxC W B 85 (pair5 k1 x ++ (pair5 k2 y ++ pair5 k3 z)).toArray) (hx : TIn W S x A) (hy : TIn W S y C) (hz : TIn W S z E) (h1 : LtT A) (h2 : LtT C) (h3 : LtT E) :
    PairsT W S (.slice (some ⟨B, 0, none⟩) 3 3) [k1, k2, k3] (fun i => if i = 0 then x else if i = 1 then y else z) [A, C, E] := by
  refine ⟨some ⟨B, 0, none⟩, 3, rfl, rfl, fun i hi => ?_⟩
  match i, hi with
  | 0, _ =>
    refine ⟨B, 0, A, rfl, fun r hr => ?_, rfl, hx, h1⟩
    have := hb.cell r
    rw [show 0 + (0 * 5 + r) = r by omega, this, List.getElem?_toArray]
    exact List.getElem?_append_left (by simpa [pair5] using hr)
  | 1, _ =>
    refine ⟨B, 0, C, rfl, fun r hr => ?_, rfl, hy, h2⟩
    have := hb.cell (5 + r)
    rw [show 0 + (1 * 5 + r) = 5 + r by omega, this, List.getElem?_toArray, List.getElem?_append_right (by simp [pair5]), List.getElem?_append_left (by simp [pair5]; omega)]
    simp [pair5, nthS]
  | 2, _ =>
    refine ⟨B, 0, E, rfl, fun r hr => ?_, rfl, hz, h3⟩
    have := hb.cell (10 + r)
    rw [show 0 + (2 * 5 + r) = 10 + r by omega, this, List.getElem?_toArray, List.getElem?_append_right (by simp [pair5]; omega), List.getElem?_append_right (by simp [pair5]; omega)]
    simp [pair5, nthS]
    congr 1
    omega
/-- What stands in a message. -/
def msgT (k1 k2 : ByteArray) (A C : JT) : JT := .mk 6 ⟨#[]⟩ [kJson, k1, k2] [flatT cVer, A, C]
theorem ver_lt : LtT (flatT cVer) := .mk 4 sVer [] [] (by simp) (by simp) (by decide) (fun i hi => by simp at hi)
theorem msg_lt {k1 k2 : ByteArray} {A C : JT} (h1 : LtT A) (h2 : LtT C) : LtT (msgT k1 k2 A C) := .mk 6 _ _ _ (by simp) (by simp) (by decide) (fun i hi => by
  match i, hi with
  | 0, _ => exact ver_lt
  | 1, _ => exact h1
  | 2, _ => exact h2)

set_option maxHeartbeats 8000000 in
theorem message_any (w : World) {S : Nat → Prop} (k1 k2 : ByteArray) {x y : JC} {A C : JT} (hx : TIn w S x A) (hy : TIn w S y C) (ha : LtT A) (hc : LtT C) :
    Calls Tryz.prog 35 #[.agg (pair5 k1 x).toArray, .agg (pair5 k2 y).toArray] w (NewT (msgT k1 k2 (clJ A) (clJ C)) w) := by
  obtain ⟨hx2, hx3⟩ := hx.sl
  obtain ⟨xk, xs, xv, xw⟩ := x
  obtain ⟨xa, xn, xc, rfl⟩ := hx2
  obtain ⟨xd, xe, xf, rfl⟩ := hx3
  obtain ⟨hy2, hy3⟩ := hy.sl
  obtain ⟨yk, ys, yv, yw⟩ := y
  obtain ⟨ya, yn, yc, rfl⟩ := hy2
  obtain ⟨yd, ye, yf, rfl⟩ := hy3
  have hb : Below w.heap.size w (((w.alloc (.cells #[.string k1, .int .i64 xk, .string xs, .slice xa xn xc, .slice xd xe xf] 85)).alloc (.cells #[.string k2, .int .i64 yk, .string ys, .slice ya yn yc, .slice yd ye yf] 85)).alloc (.cells #[.int .i64 0, .string ⟨#[]⟩, .slice none 0 0, .slice none 0 0] 27)) := (((bel w _).alloc (by simp) _).alloc (by simp only [World.size_alloc]; omega) _)
  have h0 := (((BoxC.new w 85 #[.string k1, .int .i64 xk, .string xs, .slice xa xn xc, .slice xd xe xf]).alloc (.cells #[.string k2, .int .i64 yk, .string ys, .slice ya yn yc, .slice yd ye yf] 85)).alloc (.cells #[.int .i64 0, .string ⟨#[]⟩, .slice none 0 0, .slice none 0 0] 27))
  have h1 := ((BoxC.new (w.alloc (.cells #[.string k1, .int .i64 xk, .string xs, .slice xa xn xc, .slice xd xe xf] 85)) 85 #[.string k2, .int .i64 yk, .string ys, .slice ya yn yc, .slice yd ye yf]).alloc (.cells #[.int .i64 0, .string ⟨#[]⟩, .slice none 0 0, .slice none 0 0] 27))
  rw [World.size_alloc] at h1
  have h2 := (BoxC.new ((w.alloc (.cells #[.string k1, .int .i64 xk, .string xs, .slice xa xn xc, .slice xd xe xf] 85)).alloc (.cells #[.string k2, .int .i64 yk, .string ys, .slice ya yn yc, .slice yd ye yf] 85)) 27 #[.int .i64 0, .string ⟨#[]⟩, .slice none 0 0, .slice none 0 0])
  rw [World.size_alloc, World.size_alloc] at h2
  generalize hw0 : ((w.alloc (.cells #[.string k1, .int .i64 xk, .string xs, .slice xa xn xc, .slice xd xe xf] 85)).alloc (.cells #[.string k2, .int .i64 yk, .string ys, .slice ya yn yc, .slice yd ye yf] 85)).alloc (.cells #[.int .i64 0, .string ⟨#[]⟩, .slice none 0 0, .slice none 0 0] 27) = w0 at *
  have HMA : Hid (∀ W B, TIn W S (xk, xs, .slice xa xn xc, .slice xd xe xf) A → TIn W S (yk, ys, .slice ya yn yc, .slice yd ye yf) C → BoxC W B 85 (pair5 kJson cVer ++ (pair5 k1 (xk, xs, .slice xa xn xc, .slice xd xe xf) ++ pair5 k2 (yk, ys, .slice ya yn yc, .slice yd ye yf))).toArray → Calls Tryz.prog 36 #[.slice (some ⟨B, 0, none⟩) 3 3] W (NewT (msgT k1 k2 (clJ A) (clJ C)) W)) := fun W B hx hy hB => by
    refine (made_any W S _ _ _ _ (pairs_three hB (flat_in W S (x := cVer) ⟨rfl, rfl⟩) hx hy ver_lt ha hc) (by simp)).mono ?_
    rintro e w' ⟨y, rfl, h1, h2⟩
    refine ⟨y, rfl, h1, ?_⟩
    rw [List.map_cons, List.map_cons, List.map_cons, List.map_nil, clJ_ver] at h2
    exact h2
  unfold kJson cVer sVer pair5 at HMA
  unfold pair5
  simp only [List.cons_append, List.nil_append] at HMA ⊢
  have HS : Hid (∀ X0 : World, Below w0.heap.size w0 X0 → (X0.cell? ⟨w.heap.size, 0, none⟩ = some (.string k1) ∧ X0.cell? ⟨w.heap.size, 1, none⟩ = some (.int .i64 xk) ∧ X0.cell? ⟨w.heap.size, 2, none⟩ = some (.string xs) ∧ X0.cell? ⟨w.heap.size, 3, none⟩ = some (.slice xa xn xc) ∧ X0.cell? ⟨w.heap.size, 4, none⟩ = some (.slice xd xe xf) ∧ X0.cell? ⟨w.heap.size + 1, 0, none⟩ = some (.string k2) ∧ X0.cell? ⟨w.heap.size + 1, 1, none⟩ = some (.int .i64 yk) ∧ X0.cell? ⟨w.heap.size + 1, 2, none⟩ = some (.string ys) ∧ X0.cell? ⟨w.heap.size + 1, 3, none⟩ = some (.slice ya yn yc) ∧ X0.cell? ⟨w.heap.size + 1, 4, none⟩ = some (.slice yd ye yf))) := fun X0 h => ⟨(h0.below h).cell 0, (h0.below h).cell 1, (h0.below h).cell 2, (h0.below h).cell 3, (h0.below h).cell 4, (h1.below h).cell 0, (h1.below h).cell 1, (h1.below h).cell 2, (h1.below h).cell 3, (h1.below h).cell 4⟩
  have HW0 := hide hw0
  have HP := hide h0
  have HP2 := hide h1
  have HQ := hide h2
  have HB1 := hide hb
  have HX := hide (hx.bel hb)
  have HY := hide (hy.bel hb)
  clear hw0 h0 h1 h2 hb ha hc hx hy
  go_enter Tryz.func35, Tryz.ntmps35
  go_upto_region 1 with fail
  rw [HW0.out]
  clear HW0
  refine wp_region_held_drew (S := fun X0 : World => X0.cell? ⟨w.heap.size, 0, none⟩ = some (.string k1) ∧ X0.cell? ⟨w.heap.size, 1, none⟩ = some (.int .i64 xk) ∧ X0.cell? ⟨w.heap.size, 2, none⟩ = some (.string xs) ∧ X0.cell? ⟨w.heap.size, 3, none⟩ = some (.slice xa xn xc) ∧ X0.cell? ⟨w.heap.size, 4, none⟩ = some (.slice xd xe xf) ∧ X0.cell? ⟨w.heap.size + 1, 0, none⟩ = some (.string k2) ∧ X0.cell? ⟨w.heap.size + 1, 1, none⟩ = some (.int .i64 yk) ∧ X0.cell? ⟨w.heap.size + 1, 2, none⟩ = some (.string ys) ∧ X0.cell? ⟨w.heap.size + 1, 3, none⟩ = some (.slice ya yn yc) ∧ X0.cell? ⟨w.heap.size + 1, 4, none⟩ = some (.slice yd ye yf)) (by kernel_rfl) (HS.out _ (Below.refl _ _).drew) (fun hHeld => ?_)
  have HB : Hid (Below w0.heap.size w0 w0.drew) := (Below.refl _ _).drew
  have HX9 := hide (HX.out.bel ((Below.refl w0.heap.size w0).drew))
  have HY9 := hide (HY.out.bel ((Below.refl w0.heap.size w0).drew))
  clear HX HY
  have HX := HX9
  have HY := HY9
  clear HX9 HY9
  generalize w0.drew = wd at *
  refine takeD (i := 2) (v := ?v1) (some 7) rfl (by kernel_rfl) (by kernel_rfl) (by kernel_rfl) (fun _ _ _ h => h) (Or.inl ⟨by rfl, ?hy1⟩) (HS.out _ HB.out) (by rfl) ?rest1
  case hy1 => first | (intro w hSw; (try dsimp only at hSw); obtain ⟨s0, s1, s2, s3, s4, s5, s6, s7, s8, s9⟩ := hSw; go_simp; done) | (intro w hSw; (try dsimp only at hSw); obtain ⟨s0, s1, s2, s3, s4, s5, s6, s7, s8, s9⟩ := hSw; go_simp; with_reducible rfl)
  try simp only [Act.put, List.setIfInBounds_toArray, List.set_cons_zero, List.set_cons_succ, vagg]
  refine takeD (i := 3) (v := ?v2) (some 8) rfl (by kernel_rfl) (by kernel_rfl) (by kernel_rfl) (fun _ _ _ h => h) (Or.inl ⟨by rfl, ?hy2⟩) (HS.out _ HB.out) (by rfl) ?rest2
  case hy2 => first | (intro w hSw; (try dsimp only at hSw); obtain ⟨s0, s1, s2, s3, s4, s5, s6, s7, s8, s9⟩ := hSw; go_simp; done) | (intro w hSw; (try dsimp only at hSw); obtain ⟨s0, s1, s2, s3, s4, s5, s6, s7, s8, s9⟩ := hSw; go_simp; with_reducible rfl)
  try simp only [Act.put, List.setIfInBounds_toArray, List.set_cons_zero, List.set_cons_succ, vagg]
  refine wpAnyH_ready (rs := [0]) (by kernel_rfl) (by simp) ?_
  refine AllReadyH.cons rfl (fun K9 hK => ?_) AllReadyH.nil
  go_simp
  have hcall := text_calls wd ⟨#[50, 46, 48]⟩
  try unfold vagg at hcall
  try simp only at hcall
  refine hcall.mono ?_
  rintro e w1 ⟨rfl, hb9⟩
  have HB9 := hide (HB.out.trans (hb9.mono HB.out.size))
  have HX9 := hide (HX.out.bel hb9)
  have HY9 := hide (HY.out.bel hb9)
  clear hcall HB HX HY
  rename Hid (Below _ _ w1) => HB
  have HX := HX9
  clear HX9
  have HY := HY9
  clear HY9
  refine hK.out _ _ (HS.out _ HB.out) (fun _ => ?_)
  clear hK K9 hb9
  try simp only [Act.put, List.setIfInBounds_toArray, List.set_cons_zero, List.set_cons_succ, vagg]
  refine takeD (i := 1) (v := ?v3) (some 6) rfl (by kernel_rfl) (by kernel_rfl) (by kernel_rfl) (fun _ _ _ h => h) (Or.inl ⟨by rfl, ?hy3⟩) (HS.out _ HB.out) (by rfl) ?rest3
  case hy3 => first | (intro w hSw; (try dsimp only at hSw); obtain ⟨s0, s1, s2, s3, s4, s5, s6, s7, s8, s9⟩ := hSw; go_simp; done) | (intro w hSw; (try dsimp only at hSw); obtain ⟨s0, s1, s2, s3, s4, s5, s6, s7, s8, s9⟩ := hSw; go_simp; with_reducible rfl)
  try simp only [Act.put, List.setIfInBounds_toArray, List.set_cons_zero, List.set_cons_succ, vagg]
  refine wpAnyH_ready (rs := [4]) (by kernel_rfl) (by simp) ?_
  refine AllReadyH.cons rfl (fun K9 hK => ?_) AllReadyH.nil
  go_simp
  have hb9 := bel w1 (.cells #[.string ⟨#[106, 115, 111, 110, 114, 112, 99]⟩, .int .i64 4, .string ⟨#[50, 46, 48]⟩, .slice none 0 0, .slice none 0 0, .string k1, .int .i64 xk, .string xs, .slice xa xn xc, .slice xd xe xf, .string k2, .int .i64 yk, .string ys, .slice ya yn yc, .slice yd ye yf] 85)
  have hbx := BoxC.new w1 85 #[.string ⟨#[106, 115, 111, 110, 114, 112, 99]⟩, .int .i64 4, .string ⟨#[50, 46, 48]⟩, .slice none 0 0, .slice none 0 0, .string k1, .int .i64 xk, .string xs, .slice xa xn xc, .slice xd xe xf, .string k2, .int .i64 yk, .string ys, .slice ya yn yc, .slice yd ye yf]
  have HB9 := hide (HB.out.trans (hb9.mono HB.out.size))
  have HX9 := hide (HX.out.bel hb9)
  have HY9 := hide (HY.out.bel hb9)
  refine hK.out _ _ (HS.out _ HB9.out) (fun _ => ?_)
  clear hK K9 hb9 HB HX HY
  try simp only [Act.put, List.setIfInBounds_toArray, List.set_cons_zero, List.set_cons_succ, vagg]
  generalize hB2 : w1.heap.size = B2 at *
  generalize hw3 : w1.alloc (.cells #[.string ⟨#[106, 115, 111, 110, 114, 112, 99]⟩, .int .i64 4, .string ⟨#[50, 46, 48]⟩, .slice none 0 0, .slice none 0 0, .string k1, .int .i64 xk, .string xs, .slice xa xn xc, .slice xd xe xf, .string k2, .int .i64 yk, .string ys, .slice ya yn yc, .slice yd ye yf] 85) = w3 at *
  have HB := HB9
  clear HB9
  have HBX := hide hbx
  clear hbx hw3
  refine wpAnyH_ready (rs := [5]) (by kernel_rfl) (by simp) ?_
  refine AllReadyH.cons rfl (fun K9 hK => ?_) AllReadyH.nil
  go_simp
  have hcall := HMA.out w3 B2 HX9.out HY9.out HBX.out
  try unfold vagg at hcall
  try simp only at hcall
  refine hcall.mono ?_
  rintro e w4 ⟨⟨pk, ps, pK, pL⟩, rfl, hb9, hT⟩
  have HB9 := hide (HB.out.trans (hb9.mono HB.out.size))
  obtain ⟨h4, h5⟩ := hT.sl
  simp only at h4 h5
  obtain ⟨pa, pn, pc, rfl⟩ := h4
  obtain ⟨pd, pe, pf, rfl⟩ := h5
  have HT := hide hT
  clear hT
  have HL := hide (show w.heap.size + 1 + 1 < w3.heap.size from (HQ.out.below HB.out).lt)
  clear hcall HB
  rename Hid (Below _ _ w4) => HB
  refine hK.out _ _ (HS.out _ HB.out) (fun _ => ?_)
  clear hK K9 hb9
  try simp only [Act.put, List.setIfInBounds_toArray, List.set_cons_zero, List.set_cons_succ, vagg]
  have hq4 := HQ.out.below HB.out
  have z0 := hq4.cell 0
  have z1 := hq4.cell 1
  have z2 := hq4.cell 2
  have z3 := hq4.cell 3
  simp only [List.getElem?_toArray, List.getElem?_cons_zero, List.getElem?_cons_succ] at z0 z1 z2 z3
  have y0 := hq4.frozen 0
  have y1 := hq4.frozen 1
  have y2 := hq4.frozen 2
  have y3 := hq4.frozen 3
  have lX := hq4.lt
  have HQ4 := hide hq4
  have HBF : Hid (Below w0.heap.size w0 w4) := HB.out
  clear hq4
  refine wpAnyH_ready (rs := [6]) (by kernel_rfl) (by simp) ?_
  refine AllReadyH.cons rfl (fun K9 hK => ?_) AllReadyH.nil
  go_simp
  have hS0 := box_off4 (HP.out.below HBF.out) (show w.heap.size ≠ w.heap.size + 1 + 1 by omega) (.int .i64 pk) (.string ps) (.slice pa pn pc) (.slice pd pe pf)
  have hS1 := box_off4 (HP2.out.below HBF.out) (show w.heap.size + 1 ≠ w.heap.size + 1 + 1 by omega) (.int .i64 pk) (.string ps) (.slice pa pn pc) (.slice pd pe pf)
  refine hK.out _ _ ⟨hS0.cell 0, hS0.cell 1, hS0.cell 2, hS0.cell 3, hS0.cell 4, hS1.cell 0, hS1.cell 1, hS1.cell 2, hS1.cell 3, hS1.cell 4⟩ (fun _ => ?_)
  clear hK K9 hS0 hS1
  try simp only [Act.put, List.setIfInBounds_toArray, List.set_cons_zero, List.set_cons_succ, vagg]
  refine wpAnyH_done (by kernel_rfl) ?_ _
  go_wp2
  refine bodyPost_ret (results_jv rfl rfl (resJ_v HQ4.out (.int .i64 pk) (.string ps) (.slice pa pn pc) (.slice pd pe pf))) rfl ?_
  refine ⟨(pk, ps, .slice pa pn pc, .slice pd pe pf), rfl, below4 (HB1.out.trans (HBF.out.mono HB1.out.size)) (by omega) _ _ _ _, HT.out.keep fun b hs _ => ?_⟩
  have hs' : w3.heap.size ≤ b := hs
  have hl := HL.out
  refine ⟨by show w.heap.size ≤ b; omega, ?_⟩
  have hne : b ≠ w.heap.size + 1 + 1 := by omega
  rw [Below.heap_setCell _ ⟨w.heap.size + 1 + 1, 3, none⟩ _ b hne, Below.heap_setCell _ ⟨w.heap.size + 1 + 1, 2, none⟩ _ b hne, Below.heap_setCell _ ⟨w.heap.size + 1 + 1, 1, none⟩ _ b hne, Below.heap_setCell _ ⟨w.heap.size + 1 + 1, 0, none⟩ _ b hne]

def qId : ByteArray := ⟨#[105, 100]⟩
def qRes : ByteArray := ⟨#[114, 101, 115, 117, 108, 116]⟩
def qErr : ByteArray := ⟨#[101, 114, 114, 111, 114]⟩
def qMeth : ByteArray := ⟨#[109, 101, 116, 104, 111, 100]⟩
def qPar : ByteArray := ⟨#[112, 97, 114, 97, 109, 115]⟩
def qCode : ByteArray := ⟨#[99, 111, 100, 101]⟩
def qMsg : ByteArray := ⟨#[109, 101, 115, 115, 97, 103, 101]⟩
set_option maxHeartbeats 8000000 in
theorem result_any (w : World) {S : Nat → Prop} {x y : JC} {A C : JT} (hx : TIn w S x A) (hy : TIn w S y C) (ha : LtT A) (hc : LtT C) :
    Calls Tryz.prog 12 #[vagg x, vagg y] w (NewT (msgT qId qRes (clJ A) (clJ C)) w) := by
  obtain ⟨hx2, hx3⟩ := hx.sl
  obtain ⟨xk, xs, xv, xw⟩ := x
  obtain ⟨xa, xn, xc, rfl⟩ := hx2
  obtain ⟨xd, xe, xf, rfl⟩ := hx3
  obtain ⟨hy2, hy3⟩ := hy.sl
  obtain ⟨yk, ys, yv, yw⟩ := y
  obtain ⟨ya, yn, yc, rfl⟩ := hy2
  obtain ⟨yd, ye, yf, rfl⟩ := hy3
  have hb : Below w.heap.size w (((w.alloc (.cells #[.int .i64 xk, .string xs, .slice xa xn xc, .slice xd xe xf] 27)).alloc (.cells #[.int .i64 yk, .string ys, .slice ya yn yc, .slice yd ye yf] 27)).alloc (.cells #[.int .i64 0, .string ⟨#[]⟩, .slice none 0 0, .slice none 0 0] 27)) := (((bel w _).alloc (by simp) _).alloc (by simp only [World.size_alloc]; omega) _)
  have h0 := (((BoxC.new w 27 #[.int .i64 xk, .string xs, .slice xa xn xc, .slice xd xe xf]).alloc (.cells #[.int .i64 yk, .string ys, .slice ya yn yc, .slice yd ye yf] 27)).alloc (.cells #[.int .i64 0, .string ⟨#[]⟩, .slice none 0 0, .slice none 0 0] 27))
  have h1 := ((BoxC.new (w.alloc (.cells #[.int .i64 xk, .string xs, .slice xa xn xc, .slice xd xe xf] 27)) 27 #[.int .i64 yk, .string ys, .slice ya yn yc, .slice yd ye yf]).alloc (.cells #[.int .i64 0, .string ⟨#[]⟩, .slice none 0 0, .slice none 0 0] 27))
  rw [World.size_alloc] at h1
  have h2 := (BoxC.new ((w.alloc (.cells #[.int .i64 xk, .string xs, .slice xa xn xc, .slice xd xe xf] 27)).alloc (.cells #[.int .i64 yk, .string ys, .slice ya yn yc, .slice yd ye yf] 27)) 27 #[.int .i64 0, .string ⟨#[]⟩, .slice none 0 0, .slice none 0 0])
  rw [World.size_alloc, World.size_alloc] at h2
  generalize hw0 : ((w.alloc (.cells #[.int .i64 xk, .string xs, .slice xa xn xc, .slice xd xe xf] 27)).alloc (.cells #[.int .i64 yk, .string ys, .slice ya yn yc, .slice yd ye yf] 27)).alloc (.cells #[.int .i64 0, .string ⟨#[]⟩, .slice none 0 0, .slice none 0 0] 27) = w0 at *
  have HM := hide (message_any w0 qId qRes (hx.bel hb) (hy.bel hb) ha hc)
  generalize hT0 : msgT qId qRes (clJ A) (clJ C) = T0 at *
  unfold vagg
  unfold qId qRes pair5 at HM
  simp only at HM ⊢
  have HW0 := hide hw0
  have HP := hide h0
  have HP2 := hide h1
  have HQ := hide h2
  have HB1 := hide hb
  clear hw0 h0 h1 h2 hb ha hc hx hy hT0
  have u0 := HP.out.cell 0
  have u1 := HP.out.cell 1
  have u2 := HP.out.cell 2
  have u3 := HP.out.cell 3
  have v0 := HP2.out.cell 0
  have v1 := HP2.out.cell 1
  have v2 := HP2.out.cell 2
  have v3 := HP2.out.cell 3
  simp only [List.getElem?_toArray, List.getElem?_cons_zero, List.getElem?_cons_succ] at u0 u1 u2 u3 v0 v1 v2 v3
  go_enter Tryz.func12, Tryz.ntmps12
  go_upto_region 1 with fail
  rw [HW0.out]
  clear HW0
  go_wp2_with fail
  refine HM.out.mono ?_
  rintro e w4 ⟨⟨pk, ps, pK, pL⟩, rfl, hb9, hT⟩
  obtain ⟨h4, h5⟩ := hT.sl
  simp only at h4 h5
  obtain ⟨pa, pn, pc, rfl⟩ := h4
  obtain ⟨pd, pe, pf, rfl⟩ := h5
  have HT := hide hT
  clear hT
  simp only [vagg]
  have HL := hide (show w.heap.size + 1 + 1 < w0.heap.size from HQ.out.lt)
  have HB := hide hb9
  clear hb9 HM u0 u1 u2 u3 v0 v1 v2 v3
  have hq4 := HQ.out.below HB.out
  have z0 := hq4.cell 0
  have z1 := hq4.cell 1
  have z2 := hq4.cell 2
  have z3 := hq4.cell 3
  simp only [List.getElem?_toArray, List.getElem?_cons_zero, List.getElem?_cons_succ] at z0 z1 z2 z3
  have y0 := hq4.frozen 0
  have y1 := hq4.frozen 1
  have y2 := hq4.frozen 2
  have y3 := hq4.frozen 3
  have lX := hq4.lt
  have HQ4 := hide hq4
  have HBF : Hid (Below w0.heap.size w0 w4) := HB.out
  clear hq4
  go_wp2
  refine bodyPost_ret (results_jv rfl rfl (resJ_v HQ4.out (.int .i64 pk) (.string ps) (.slice pa pn pc) (.slice pd pe pf))) rfl ?_
  refine ⟨(pk, ps, .slice pa pn pc, .slice pd pe pf), rfl, below4 (HB1.out.trans (HBF.out.mono HB1.out.size)) (by omega) _ _ _ _, HT.out.keep fun b hs _ => ?_⟩
  have hs' : w0.heap.size ≤ b := hs
  have hl := HL.out
  refine ⟨by show w.heap.size ≤ b; omega, ?_⟩
  have hne : b ≠ w.heap.size + 1 + 1 := by omega
  rw [Below.heap_setCell _ ⟨w.heap.size + 1 + 1, 3, none⟩ _ b hne, Below.heap_setCell _ ⟨w.heap.size + 1 + 1, 2, none⟩ _ b hne, Below.heap_setCell _ ⟨w.heap.size + 1 + 1, 1, none⟩ _ b hne, Below.heap_setCell _ ⟨w.heap.size + 1 + 1, 0, none⟩ _ b hne]

theorem text_lt (s : ByteArray) : LtT (flatT (4, s, .slice none 0 0, .slice none 0 0)) := .mk 4 s [] [] (by simp) (by simp) (fun h => by cases h) (fun i hi => by simp at hi)
theorem clJ_text (s : ByteArray) : clJ (flatT (4, s, .slice none 0 0, .slice none 0 0)) = flatT (4, s, .slice none 0 0, .slice none 0 0) := by unfold flatT; rw [clJ_eq]; simp [sP, kP, lP, clJs]
def textT (s : ByteArray) : JT := flatT (4, s, .slice none 0 0, .slice none 0 0)
set_option maxHeartbeats 8000000 in
theorem notify_any (w : World) {S : Nat → Prop} (s : ByteArray) {y : JC} {C : JT} (hy : TIn w S y C) (hc : LtT C) :
    Calls Tryz.prog 15 #[.string s, vagg y] w (NewT (msgT qMeth qPar (textT s) (clJ C)) w) := by
  obtain ⟨hy2, hy3⟩ := hy.sl
  obtain ⟨yk, ys, yv, yw⟩ := y
  obtain ⟨ya, yn, yc, rfl⟩ := hy2
  obtain ⟨yd, ye, yf, rfl⟩ := hy3
  have hb : Below w.heap.size w ((w.alloc (.cells #[.int .i64 yk, .string ys, .slice ya yn yc, .slice yd ye yf] 27)).alloc (.cells #[.int .i64 0, .string ⟨#[]⟩, .slice none 0 0, .slice none 0 0] 27)) := ((bel w _).alloc (by simp) _)
  have h0 := ((BoxC.new w 27 #[.int .i64 yk, .string ys, .slice ya yn yc, .slice yd ye yf]).alloc (.cells #[.int .i64 0, .string ⟨#[]⟩, .slice none 0 0, .slice none 0 0] 27))
  have h1 := (BoxC.new (w.alloc (.cells #[.int .i64 yk, .string ys, .slice ya yn yc, .slice yd ye yf] 27)) 27 #[.int .i64 0, .string ⟨#[]⟩, .slice none 0 0, .slice none 0 0])
  rw [World.size_alloc] at h1
  generalize hw0 : (w.alloc (.cells #[.int .i64 yk, .string ys, .slice ya yn yc, .slice yd ye yf] 27)).alloc (.cells #[.int .i64 0, .string ⟨#[]⟩, .slice none 0 0, .slice none 0 0] 27) = w0 at *
  have HM : Hid (∀ W, TIn W S (yk, ys, .slice ya yn yc, .slice yd ye yf) C → Calls Tryz.prog 35 #[.agg (pair5 qMeth (4, s, .slice none 0 0, .slice none 0 0)).toArray, .agg (pair5 qPar (yk, ys, .slice ya yn yc, .slice yd ye yf)).toArray] W (NewT (msgT qMeth qPar (textT s) (clJ C)) W)) := fun W h => by
    have h := message_any W qMeth qPar (flat_in W S (x := (4, s, .slice none 0 0, .slice none 0 0)) ⟨rfl, rfl⟩) h (text_lt s) hc
    rw [clJ_text] at h
    exact h
  generalize hT0 : msgT qMeth qPar (textT s) (clJ C) = T0 at *
  unfold vagg
  unfold qMeth qPar pair5 at HM
  simp only at HM ⊢
  have HS : Hid (∀ X0 : World, Below w0.heap.size w0 X0 → (X0.cell? ⟨w.heap.size, 0, none⟩ = some (.int .i64 yk) ∧ X0.cell? ⟨w.heap.size, 1, none⟩ = some (.string ys) ∧ X0.cell? ⟨w.heap.size, 2, none⟩ = some (.slice ya yn yc) ∧ X0.cell? ⟨w.heap.size, 3, none⟩ = some (.slice yd ye yf))) := fun X0 h => ⟨(h0.below h).cell 0, (h0.below h).cell 1, (h0.below h).cell 2, (h0.below h).cell 3⟩
  have HW0 := hide hw0
  have HP := hide h0
  have HQ := hide h1
  have HB1 := hide hb
  have HY := hide (hy.bel hb)
  clear hw0 h0 h1 hb hc hy hT0
  go_enter Tryz.func15, Tryz.ntmps15
  go_upto_region 1 with fail
  rw [HW0.out]
  clear HW0
  refine wp_region_held_drew (S := fun X0 : World => X0.cell? ⟨w.heap.size, 0, none⟩ = some (.int .i64 yk) ∧ X0.cell? ⟨w.heap.size, 1, none⟩ = some (.string ys) ∧ X0.cell? ⟨w.heap.size, 2, none⟩ = some (.slice ya yn yc) ∧ X0.cell? ⟨w.heap.size, 3, none⟩ = some (.slice yd ye yf)) (by kernel_rfl) (HS.out _ (Below.refl _ _).drew) (fun hHeld => ?_)
  have HB : Hid (Below w0.heap.size w0 w0.drew) := (Below.refl _ _).drew
  have HY9 := hide (HY.out.bel ((Below.refl w0.heap.size w0).drew))
  clear HY
  have HY := HY9
  clear HY9
  generalize w0.drew = wd at *
  refine takeD (i := 0) (v := ?v4) (some 5) rfl (by kernel_rfl) (by kernel_rfl) (by kernel_rfl) (fun _ _ _ h => h) (Or.inl ⟨by rfl, ?hy4⟩) (HS.out _ HB.out) (by rfl) ?rest4
  case hy4 => first | (intro w hSw; (try dsimp only at hSw); obtain ⟨s0, s1, s2, s3⟩ := hSw; go_simp; done) | (intro w hSw; (try dsimp only at hSw); obtain ⟨s0, s1, s2, s3⟩ := hSw; go_simp; with_reducible rfl)
  try simp only [Act.put, List.setIfInBounds_toArray, List.set_cons_zero, List.set_cons_succ, vagg]
  refine takeD (i := 3) (v := ?v5) (some 8) rfl (by kernel_rfl) (by kernel_rfl) (by kernel_rfl) (fun _ _ _ h => h) (Or.inl ⟨by rfl, ?hy5⟩) (HS.out _ HB.out) (by rfl) ?rest5
  case hy5 => first | (intro w hSw; (try dsimp only at hSw); obtain ⟨s0, s1, s2, s3⟩ := hSw; go_simp; done) | (intro w hSw; (try dsimp only at hSw); obtain ⟨s0, s1, s2, s3⟩ := hSw; go_simp; with_reducible rfl)
  try simp only [Act.put, List.setIfInBounds_toArray, List.set_cons_zero, List.set_cons_succ, vagg]
  refine takeD (i := 4) (v := ?v6) (some 9) rfl (by kernel_rfl) (by kernel_rfl) (by kernel_rfl) (fun _ _ _ h => h) (Or.inl ⟨by rfl, ?hy6⟩) (HS.out _ HB.out) (by rfl) ?rest6
  case hy6 => first | (intro w hSw; (try dsimp only at hSw); obtain ⟨s0, s1, s2, s3⟩ := hSw; go_simp; done) | (intro w hSw; (try dsimp only at hSw); obtain ⟨s0, s1, s2, s3⟩ := hSw; go_simp; with_reducible rfl)
  try simp only [Act.put, List.setIfInBounds_toArray, List.set_cons_zero, List.set_cons_succ, vagg]
  refine wpAnyH_ready (rs := [1]) (by kernel_rfl) (by simp) ?_
  refine AllReadyH.cons rfl (fun K9 hK => ?_) AllReadyH.nil
  go_simp
  have hcall := text_calls wd s
  try unfold vagg at hcall
  try simp only at hcall
  refine hcall.mono ?_
  rintro e w1 ⟨rfl, hb9⟩
  have HB9 := hide (HB.out.trans (hb9.mono HB.out.size))
  have HY9 := hide (HY.out.bel hb9)
  clear hcall HB HY
  rename Hid (Below _ _ w1) => HB
  have HY := HY9
  clear HY9
  refine hK.out _ _ (HS.out _ HB.out) (fun _ => ?_)
  clear hK K9 hb9
  try simp only [Act.put, List.setIfInBounds_toArray, List.set_cons_zero, List.set_cons_succ, vagg]
  refine takeD (i := 2) (v := ?v7) (some 7) rfl (by kernel_rfl) (by kernel_rfl) (by kernel_rfl) (fun _ _ _ h => h) (Or.inl ⟨by rfl, ?hy7⟩) (HS.out _ HB.out) (by rfl) ?rest7
  case hy7 => first | (intro w hSw; (try dsimp only at hSw); obtain ⟨s0, s1, s2, s3⟩ := hSw; go_simp; done) | (intro w hSw; (try dsimp only at hSw); obtain ⟨s0, s1, s2, s3⟩ := hSw; go_simp; with_reducible rfl)
  try simp only [Act.put, List.setIfInBounds_toArray, List.set_cons_zero, List.set_cons_succ, vagg]
  refine wpAnyH_ready (rs := [5]) (by kernel_rfl) (by simp) ?_
  refine AllReadyH.cons rfl (fun K9 hK => ?_) AllReadyH.nil
  go_simp
  have hcall := HM.out w1 HY.out
  try unfold vagg at hcall
  try simp only at hcall
  refine hcall.mono ?_
  rintro e w4 ⟨⟨pk, ps, pK, pL⟩, rfl, hb9, hT⟩
  have HB9 := hide (HB.out.trans (hb9.mono HB.out.size))
  obtain ⟨h4, h5⟩ := hT.sl
  simp only at h4 h5
  obtain ⟨pa, pn, pc, rfl⟩ := h4
  obtain ⟨pd, pe, pf, rfl⟩ := h5
  have HT := hide hT
  clear hT
  have HL := hide (show w.heap.size + 1 < w1.heap.size from (HQ.out.below HB.out).lt)
  clear hcall HB
  rename Hid (Below _ _ w4) => HB
  refine hK.out _ _ (HS.out _ HB.out) (fun _ => ?_)
  clear hK K9 hb9
  try simp only [Act.put, List.setIfInBounds_toArray, List.set_cons_zero, List.set_cons_succ, vagg]
  have hq4 := HQ.out.below HB.out
  have z0 := hq4.cell 0
  have z1 := hq4.cell 1
  have z2 := hq4.cell 2
  have z3 := hq4.cell 3
  simp only [List.getElem?_toArray, List.getElem?_cons_zero, List.getElem?_cons_succ] at z0 z1 z2 z3
  have y0 := hq4.frozen 0
  have y1 := hq4.frozen 1
  have y2 := hq4.frozen 2
  have y3 := hq4.frozen 3
  have lX := hq4.lt
  have HQ4 := hide hq4
  have HBF : Hid (Below w0.heap.size w0 w4) := HB.out
  clear hq4
  refine wpAnyH_ready (rs := [6]) (by kernel_rfl) (by simp) ?_
  refine AllReadyH.cons rfl (fun K9 hK => ?_) AllReadyH.nil
  go_simp
  have hS0 := box_off4 (HP.out.below HBF.out) (show w.heap.size ≠ w.heap.size + 1 by omega) (.int .i64 pk) (.string ps) (.slice pa pn pc) (.slice pd pe pf)
  refine hK.out _ _ ⟨hS0.cell 0, hS0.cell 1, hS0.cell 2, hS0.cell 3⟩ (fun _ => ?_)
  clear hK K9 hS0
  try simp only [Act.put, List.setIfInBounds_toArray, List.set_cons_zero, List.set_cons_succ, vagg]
  refine wpAnyH_done (by kernel_rfl) ?_ _
  go_wp2
  refine bodyPost_ret (results_jv rfl rfl (resJ_v HQ4.out (.int .i64 pk) (.string ps) (.slice pa pn pc) (.slice pd pe pf))) rfl ?_
  refine ⟨(pk, ps, .slice pa pn pc, .slice pd pe pf), rfl, below4 (HB1.out.trans (HBF.out.mono HB1.out.size)) (by omega) _ _ _ _, HT.out.keep fun b hs _ => ?_⟩
  have hs' : w1.heap.size ≤ b := hs
  have hl := HL.out
  refine ⟨by show w.heap.size ≤ b; omega, ?_⟩
  have hne : b ≠ w.heap.size + 1 := by omega
  rw [Below.heap_setCell _ ⟨w.heap.size + 1, 3, none⟩ _ b hne, Below.heap_setCell _ ⟨w.heap.size + 1, 2, none⟩ _ b hne, Below.heap_setCell _ ⟨w.heap.size + 1, 1, none⟩ _ b hne, Below.heap_setCell _ ⟨w.heap.size + 1, 0, none⟩ _ b hne]


end Go.Proofs.YtbdpmpepmjpadaaGreatDoor
