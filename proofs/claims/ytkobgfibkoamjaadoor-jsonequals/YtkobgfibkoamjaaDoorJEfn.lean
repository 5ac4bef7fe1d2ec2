/- Json: slices.EqualFunc of rows of values, over what Equal says of their parts. -/
import Derived.Test.YtkobgfibkoamjaaDoorJPlain
namespace Go.Proofs.YtkobgfibkoamjaaDoor
set_option linter.unusedVariables false
set_option linter.unusedSimpArgs false
set_option maxRecDepth 100000
open Go Go.RowKit Go.Shelf Go.Lib

def EfnR (w : World) (ln ln' : Nat) (f : Nat → Bool) (e : Ending) (w' : World) : Prop := ∃ r, e = .returned (.bool r) ∧ (r = true ↔ ln = ln' ∧ ∀ i, i < ln → f i = true) ∧ Below w.heap.size w w'
set_option maxHeartbeats 8000000 in
theorem efn_any (w : World) (la la' : Option Addr) (ln ln' lc lc' : Nat) (xs ys : Nat → JC) (f : Nat → Bool)
    (hc : ∀ w2, Below w.heap.size w w2 → ∀ i, i < ln → ∃ b off, la = some ⟨b, off, none⟩ ∧ ∀ r, r < 4 → w2.cell? ⟨b, off + (i * 4 + r), none⟩ = (vcell (xs i))[r]?)
    (hc' : ∀ w2, Below w.heap.size w w2 → ∀ i, i < ln' → ∃ b off, la' = some ⟨b, off, none⟩ ∧ ∀ r, r < 4 → w2.cell? ⟨b, off + (i * 4 + r), none⟩ = (vcell (ys i))[r]?)
    (hsl : ∀ i, i < ln → IsSl (xs i).2.2.1 ∧ IsSl (xs i).2.2.2) (hsl' : ∀ i, i < ln' → IsSl (ys i).2.2.1 ∧ IsSl (ys i).2.2.2)
    (hf : ∀ i, i < ln → i < ln' → ∀ w2, Below w.heap.size w w2 → Calls Tryd.prog 17 #[vagg (xs i), vagg (ys i)] w2 fun e w' => e = .returned (.bool (f i)) ∧ Below w2.heap.size w2 w') (hl : ln ≤ 1000) :
    Calls Tryd.prog 45 #[.slice la ln lc, .slice la' ln' lc', .func (.func 17) #[] #[]] w (EfnR w ln ln' f) := by
  have HC := hide hc
  have HC' := hide hc'
  have HSL := hide hsl
  have HSL' := hide hsl'
  have HF := hide hf
  have HH := hide hl
  clear hc hc' hsl hsl' hf hl
  by_cases hK : ln = ln'
  rotate_left
  · have d1 : ((ln : Int) != (ln' : Int)) = true := by simp; omega
    have HKK := hide hK
    clear hK
    go_enter Tryd.func45, Tryd.ntmps45
    go_wp2
    go_ret
    exact ⟨false, rfl, ⟨fun h => (by cases h), fun h => absurd h.1 HKK.out⟩, Below.refl _ _⟩
  subst hK
  go_enter Tryd.func45, Tryd.ntmps45
  go_wp2
  go_loopw [17] (fun iv wr => ∃ i : Nat, i ≤ ln ∧ iv = .int .i64 (i : Int) ∧ Below w.heap.size w wr ∧ ∀ q, q < i → f q = true) (fun iv _ => ln - (RowKit.intOf iv).toNat)
  case atStart => exact ⟨0, Nat.zero_le _, rfl, Below.refl _ _, fun q h => by omega⟩
  case round =>
    obtain ⟨i, hi, rfl, hB, hQ⟩ := hrel
    have HQ := hide hQ
    have HBR := hide hB
    clear hB hQ
    generalize wr = wo at *
    by_cases hlt : i < ln
    · obtain ⟨b, off, rfl, cx⟩ := HC.out wo HBR.out i hlt
      obtain ⟨b', off', rfl, cy⟩ := HC'.out wo HBR.out i hlt
      obtain ⟨hs2, hs3⟩ := HSL.out i hlt
      obtain ⟨hs4, hs5⟩ := HSL'.out i hlt
      have hcall := HF.out i hlt hlt
      generalize xs i = y at *
      obtain ⟨yk, ys', yK, yL⟩ := y
      generalize ys i = z at *
      obtain ⟨zk, zs, zK, zL⟩ := z
      simp only [vagg, vcell] at hcall cx cy hs2 hs3 hs4 hs5
      obtain ⟨pa, pn, pc, rfl⟩ := hs2
      obtain ⟨qa, qn, qc, rfl⟩ := hs3
      obtain ⟨pa', pn', pc', rfl⟩ := hs4
      obtain ⟨qa', qn', qc', rfl⟩ := hs5
      have x0 := cx 0 (by omega)
      have x1 := cx 1 (by omega)
      have x2 := cx 2 (by omega)
      have x3 := cx 3 (by omega)
      have y0 := cy 0 (by omega)
      have y1 := cy 1 (by omega)
      have y2 := cy 2 (by omega)
      have y3 := cy 3 (by omega)
      simp only [List.getElem?_cons_zero, List.getElem?_cons_succ, ← Nat.add_assoc, Nat.add_zero] at x0 x1 x2 x3 y0 y1 y2 y3
      obtain ⟨i1, hi1⟩ : ∃ i1, i + 1 = i1 := ⟨_, rfl⟩
      have e1 : (i : Int) + 1 = (i1 : Int) := by omega
      have g1 : (i1 : Int) ≤ 1000000000 := by have := HH.out; omega
      have d1 : (i : Int) < (ln : Int) := by omega
      have d0 : (0 : Int) ≤ (i : Int) := by omega
      have HI := hide (And.intro hlt hi1)
      have hb2 : Below w.heap.size w ((wo.alloc (.cells #[.int .i64 yk, .string ys', .slice pa pn pc, .slice qa qn qc] 27)).alloc (.cells #[.int .i64 zk, .string zs, .slice pa' pn' pc', .slice qa' qn' qc'] 27)) := HBR.out.trans (((bel wo _).alloc (by simp) _).mono HBR.out.size)
      have hcall2 := hcall _ hb2
      have HB2 := hide hb2
      have ly := block_lt (show wo.cell? ⟨b', off' + i * 4, none⟩ = some _ from y0)
      obtain ⟨r, hr⟩ : ∃ r, f i = r := ⟨_, rfl⟩
      rw [hr] at hcall2
      have HR := hide hr
      clear hcall hlt hi1 hi cx cy hb2 hr
      go_wp2_with fail
      refine hcall2.mono ?_
      rintro e w3 ⟨rfl, hb3⟩
      have HB3 := hide (HB2.out.trans (hb3.mono HB2.out.size))
      clear hcall2 hb3
      cases r
      · go_wp2
        go_ret
        refine ⟨false, rfl, ⟨fun h => (by cases h), fun h => ?_⟩, HB3.out⟩
        have := h.2 i HI.out.1
        rw [HR.out] at this
        cases this
      · go_wp2
        go_roundw
        case rel =>
          refine ⟨i1, by have := HI.out; omega, by first | rfl | go_num, HB3.out, fun q hq => ?_⟩
          rcases Nat.lt_or_ge q i with h | h
          · exact HQ.out q h
          · obtain rfl : q = i := by have := HI.out; omega
            exact HR.out
        case measure => have := HI.out; simp [RowKit.intOf]; omega
    · obtain rfl : i = ln := by omega
      have d5 : ¬ (i : Int) < (i : Int) := by omega
      clear hlt hi
      go_wp2
      go_ret
      exact ⟨true, rfl, ⟨fun _ => ⟨rfl, fun q h => HQ.out q h⟩, fun _ => rfl⟩, HBR.out⟩

end Go.Proofs.YtkobgfibkoamjaaDoor
