/- Json: slices.Index of strings; Get. -/
import Derived.Test.YtcedcbonphgecaaDoorJClo
namespace Go.Proofs.YtcedcbonphgecaaDoor
set_option linter.unusedVariables false
set_option linter.unusedSimpArgs false
set_option maxRecDepth 100000
open Go Go.RowKit Go.Shelf Go.Lib

theorem results_jv2 {fn : Func} {i k : Tmp} (h : fn.results = #[.cell i 27, .tmp k]) {tmps : Array Value} {W : World} {b : Nat} {x y z u : Value} {t : TypeId} {ev : Value} (hp : tmps.getD i undef = .pointer (some ⟨b, 0, none⟩)) (he : tmps.getD k undef = ev) (T : BoxC W b t #[x, y, z, u]) :
    (results fn tmps).run Tryd.prog W = .ok (.tuple #[.agg #[x, y, z, u], ev]) W := by
  have c0 : W.cell? ⟨b, 0, none⟩ = some x := T.cell 0
  have c1 : W.cell? ⟨b, 1, none⟩ = some y := T.cell 1
  have c2 : W.cell? ⟨b, 2, none⟩ = some z := T.cell 2
  have c3 : W.cell? ⟨b, 3, none⟩ = some u := T.cell 3
  have hp' : tmps[i]?.getD undef = .pointer (some ⟨b, 0, none⟩) := by simpa using hp
  have he' : tmps[k]?.getD undef = ev := by simpa using he
  simp [results, h, hp', he', go_sem, c0, c1, c2, c3]
theorem results_rv2 {fn : Func} {i k : Tmp} (h : fn.results = #[.cell i 33, .tmp k]) {tmps : Array Value} {W : World} {b : Nat} {x y z u : Value} {t : TypeId} {ev : Value} (hp : tmps.getD i undef = .pointer (some ⟨b, 0, none⟩)) (he : tmps.getD k undef = ev) (T : BoxC W b t #[x, y, z, u]) :
    (results fn tmps).run Tryd.prog W = .ok (.tuple #[.agg #[x, y, z, u], ev]) W := by
  have c0 : W.cell? ⟨b, 0, none⟩ = some x := T.cell 0
  have c1 : W.cell? ⟨b, 1, none⟩ = some y := T.cell 1
  have c2 : W.cell? ⟨b, 2, none⟩ = some z := T.cell 2
  have c3 : W.cell? ⟨b, 3, none⟩ = some u := T.cell 3
  have hp' : tmps[i]?.getD undef = .pointer (some ⟨b, 0, none⟩) := by simpa using hp
  have he' : tmps[k]?.getD undef = ev := by simpa using he
  simp [results, h, hp', he', go_sem, c0, c1, c2, c3]

/-- Where a string stands first in a row. -/
def fndK : List ByteArray → ByteArray → Option Nat
  | [], _ => none
  | a :: l, s => if a = s then some 0 else (fndK l s).map (· + 1)
theorem fnd_hit : ∀ {K : List ByteArray} {s : ByteArray} {j : Nat}, j < K.length → nthS K j = s → (∀ q, q < j → nthS K q ≠ s) → fndK K s = some j
  | [], _, j, h, _, _ => absurd h (by simp)
  | a :: l, s, 0, _, h, _ => by
    have h : a = s := by simpa [nthS] using h
    rw [fndK, if_pos h]
  | a :: l, s, j + 1, h1, h2, h3 => by
    have h0 : a ≠ s := by have := h3 0 (by omega); simpa [nthS] using this
    rw [fndK, if_neg h0, fnd_hit (K := l) (j := j) (by simpa using h1) (by simpa [nthS] using h2) (fun q hq => by have := h3 (q + 1) (by omega); simpa [nthS] using this)]
    rfl
theorem fnd_none : ∀ {K : List ByteArray} {s : ByteArray}, (∀ q, q < K.length → nthS K q ≠ s) → fndK K s = none
  | [], _, _ => rfl
  | a :: l, s, h => by
    have h0 : a ≠ s := by have := h 0 (by simp); simpa [nthS] using this
    rw [fndK, if_neg h0, fnd_none (K := l) (fun q hq => by have := h (q + 1) (by simpa using hq); simpa [nthS] using this)]
    rfl
theorem fnd_lt : ∀ {K : List ByteArray} {s : ByteArray} {j : Nat}, fndK K s = some j → j < K.length
  | [], _, _, h => by simp [fndK] at h
  | a :: l, s, j, h => by
    rw [fndK] at h
    split at h
    · cases h; simp
    · obtain ⟨q, hq, rfl⟩ := Option.map_eq_some_iff.1 h
      have := fnd_lt hq
      simp; omega

/-- What Index answers. -/
def idxV (o : Option Nat) : Int := match o with | some j => (j : Int) | none => -1
def IdxR (K : List ByteArray) (s : ByteArray) (w : World) (e : Ending) (w' : World) : Prop := e = .returned (.int .i64 (idxV (fndK K s))) ∧ Below w.heap.size w w'
set_option maxHeartbeats 8000000 in
theorem idx_any {S : Nat → Prop} {u : Value} {K : List ByteArray} (s : ByteArray) (w : World) (h : StrsS w S u K) (hl : K.length ≤ 1000) : Calls Tryd.prog 46 #[u, .string s] w (IdxR K s w) := by
  obtain ⟨ka, kc, rfl, hKc⟩ := h
  obtain ⟨kn, hkn⟩ : ∃ kn, K.length = kn := ⟨_, rfl⟩
  have HKC : Hid (∀ w2, Below w.heap.size w w2 → ∀ j, j < kn → ∃ b off, ka = some ⟨b, off, none⟩ ∧ w2.cell? ⟨b, off + j, none⟩ = some (.string (nthS K j))) := fun w2 h2 j hj => by
    obtain ⟨b, off, e, _, hx⟩ := hKc j (by omega)
    exact ⟨b, off, e, (h2.cell (p := ⟨b, off + j, none⟩) (block_lt hx)).trans hx⟩
  have HKN := hide hkn
  have HH : Hid (kn ≤ 1000) := by show kn ≤ 1000; omega
  rw [hkn]
  clear hKc hkn hl
  go_enter Tryd.func46, Tryd.ntmps46
  go_wp2
  go_loopw [8] (fun iv wr => ∃ j : Nat, j ≤ kn ∧ iv = .int .i64 (j : Int) ∧ Below w.heap.size w wr ∧ ∀ q, q < j → nthS K q ≠ s) (fun iv _ => kn - (RowKit.intOf iv).toNat)
  case atStart => exact ⟨0, Nat.zero_le _, rfl, Below.refl _ _, fun q h => by omega⟩
  case round =>
    obtain ⟨j, hj, rfl, hB, hQ⟩ := hrel
    have HQ := hide hQ
    have HB2 := hide hB
    clear hB hQ
    generalize wr = wo at *
    by_cases hlt : j < kn
    · obtain ⟨b, off, rfl, cx⟩ := HKC.out wo HB2.out j hlt
      obtain ⟨j1, hj1⟩ : ∃ j1, j + 1 = j1 := ⟨_, rfl⟩
      have e2 : (j : Int) + 1 = (j1 : Int) := by omega
      have g1 : (j1 : Int) ≤ 1000000000 := by have := HH.out; omega
      have d5 : (j : Int) < (kn : Int) := by omega
      have d0 : (0 : Int) ≤ (j : Int) := by omega
      have HI := hide (And.intro hlt hj1)
      obtain ⟨t, ht⟩ : ∃ t, nthS K j = t := ⟨_, rfl⟩
      rw [ht] at cx
      have HTJ := hide ht
      clear hlt hj1 hj ht
      by_cases htu : s = t
      · subst htu
        have HR := hide (fnd_hit (K := K) (s := s) (j := j) (by have := HI.out; have := HKN.out; omega) HTJ.out HQ.out)
        go_wp2
        go_ret
        refine ⟨?_, HB2.out⟩
        rw [HR.out]
        rfl
      · have dne : (s.toList == t.toList) = false := str_ne htu
        have HKK := hide htu
        clear htu
        go_wp2
        go_roundw
        case rel =>
          refine ⟨j1, by have := HI.out; omega, by first | rfl | go_num, HB2.out, fun q hq => ?_⟩
          rcases Nat.lt_or_ge q j with h | h
          · exact HQ.out q h
          · obtain rfl : q = j := by have := HI.out; omega
            rw [HTJ.out]
            exact fun e => HKK.out e.symm
        case measure => have := HI.out; simp [RowKit.intOf]; omega
    · obtain rfl : j = kn := by omega
      have d5 : ¬ (j : Int) < (j : Int) := by omega
      have HR := hide (fnd_none (K := K) (s := s) (fun q hq => HQ.out q (by have := HKN.out; omega)))
      clear hlt hj
      go_wp2
      go_ret
      refine ⟨?_, HB2.out⟩
      rw [HR.out]
      rfl

/-- What stands under a key. -/
def getJ (T : JT) (s : ByteArray) : Option JT := match T with
  | .mk k _ K L => if k = 6 ∧ K.length = L.length then (fndK K s).bind (fun j => L[j]?) else none
def zeroT : JT := .mk 0 ⟨#[]⟩ [] []
def zeroC : JC := (0, ⟨#[]⟩, .slice none 0 0, .slice none 0 0)
theorem zero_in (W : World) (S : Nat → Prop) : TIn W S zeroC zeroT := .mk 0 ⟨#[]⟩ (.slice none 0 0) none 0 [] [] (fun _ => zeroC) strs_nil (fun i hi => by simp at hi) (fun i hi => by simp at hi) (fun i hi => by simp at hi)
/-- What Get answers. -/
def GetR (o : Option JT) (w : World) (e : Ending) (w' : World) : Prop := ∃ y : JC, e = .returned (.tuple #[vagg y, .bool o.isSome]) ∧ Below w.heap.size w w' ∧ TIn w' (fun b => w.heap.size ≤ b) y ((o.map clJ).getD zeroT)

end Go.Proofs.YtcedcbonphgecaaDoor
