/- Json: Count: some two numbers. -/
import Derived.Test.YtacgocfgcoejpaaDoorJTTo
namespace Go.Proofs.YtacgocfgcoejpaaDoor
set_option linter.unusedVariables false
set_option linter.unusedSimpArgs false
set_option maxRecDepth 100000
open Go Go.RowKit Go.Shelf Go.Lib

def CountR (w : World) (e : Ending) (w' : World) : Prop := ∃ n d : Int, e = .returned (.tuple #[.int .i64 n, .int .i64 d]) ∧ Below w.heap.size w w'

set_option maxHeartbeats 16000000 in
theorem count_any {W : World} {S : Nat → Prop} {x : JC} {T : JT} (h : TIn W S x T) (hl : LtT T) : ∀ (w : World), Below W.heap.size W w → Calls Tryd.prog 17 #[vagg x] w (CountR w) := by
  induction h with
  | mk k s kv la lc K L xs hK hc hsl ht ih =>
    intro w hW
    obtain ⟨_, _, _, _, hKl, hLl, hsz, hll⟩ := hl
    obtain ⟨ka, kc, rfl, hKc⟩ := hK
    unfold vagg
    simp only
    have hb1 := bel w (.cells #[.int .i64 k, .string s, .slice ka K.length kc, .slice la L.length lc] 51)
    have hx1 := BoxC.new w 51 #[.int .i64 k, .string s, .slice ka K.length kc, .slice la L.length lc]
    obtain ⟨w1, hw1⟩ : ∃ w1, w.alloc (.cells #[.int .i64 k, .string s, .slice ka K.length kc, .slice la L.length lc] 51) = w1 := ⟨_, rfl⟩
    rw [hw1] at hb1 hx1
    have hW1 := hW.trans (hb1.mono hW.size)
    have HLC : Hid (∀ w2, Below w1.heap.size w1 w2 → ∀ i, i < L.length → ∃ b off, la = some ⟨b, off, none⟩ ∧ ∀ r, r < 4 → w2.cell? ⟨b, off + (i * 4 + r), none⟩ = (vcell (xs i))[r]?) := fun w2 h2 i hi => by
      obtain ⟨b, off, e, _, hx⟩ := hc i hi
      have hW2 := hW1.trans (h2.mono hW1.size)
      refine ⟨b, off, e, fun r hr => ?_⟩
      have h0 := hx 0 (by omega)
      simp only [vcell, List.getElem?_cons_zero] at h0
      exact (hW2.cell (p := ⟨b, off + (i * 4 + r), none⟩) (block_lt h0)).trans (hx r hr)
    have HIH : Hid (∀ i (hi : i < L.length) w2, Below w1.heap.size w1 w2 → Calls Tryd.prog 17 #[vagg (xs i)] w2 (CountR w2)) := fun i hi w2 h2 => ih i hi (hll i hi) w2 (hW1.trans (h2.mono hW1.size))
    have HW1 := hide hw1
    have HB1 := hide hb1
    have HSL := hide hsl
    have v3 : w1.cell? ⟨w.heap.size, 3, none⟩ = some (.slice la L.length lc) := hx1.cell 3
    have lV := hx1.lt
    obtain ⟨kn, hkn⟩ : ∃ kn, K.length = kn := ⟨_, rfl⟩
    obtain ⟨ln, hln⟩ : ∃ ln, L.length = ln := ⟨_, rfl⟩
    rw [hkn] at HW1
    rw [hln] at v3 HW1 hLl
    have HLN := hide hln
    have HH := hide hLl
    rw [hkn, hln]
    clear hb1 hx1 hw1 hW hW1 hKc hc ht ih hsl hkn hln hll hKl hsz hLl
    go_enter Tryd.func17, Tryd.ntmps17
    go_upto_region 1 with fail
    rw [HW1.out]
    clear HW1
    go_wp2
    go_loopw [4, 5, 6] (fun nv dv iv wr => ∃ (n d : Int) (i : Nat), i ≤ ln ∧ nv = .int .i64 n ∧ dv = .int .i64 d ∧ iv = .int .i64 (i : Int) ∧ Below w1.heap.size w1 wr) (fun _ _ iv _ => ln - (RowKit.intOf iv).toNat)
    case atStart => exact ⟨_, _, 0, Nat.zero_le _, rfl, rfl, rfl, Below.refl _ _⟩
    case round =>
      obtain ⟨n, d, i, hi, rfl, rfl, rfl, hB⟩ := hrel
      have HBR := hide hB
      have c3 : wr.cell? ⟨w.heap.size, 3, none⟩ = some (.slice la ln lc) := (hB.cell (p := ⟨w.heap.size, 3, none⟩) lV).trans v3
      clear hB
      by_cases hlt : i < ln
      · obtain ⟨b, off, rfl, cx⟩ := HLC.out wr HBR.out i (by have := HLN.out; omega)
        obtain ⟨hs2, hs3⟩ := HSL.out i (by have := HLN.out; omega)
        have hcall := HIH.out i (by have := HLN.out; omega) wr HBR.out
        generalize xs i = y at *
        obtain ⟨yk, ys, yK, yL⟩ := y
        simp only [vagg, vcell] at hcall cx hs2 hs3
        obtain ⟨ka', kl', kc', rfl⟩ := hs2
        obtain ⟨la', ll', lc', rfl⟩ := hs3
        have x0 := cx 0 (by omega)
        have x1 := cx 1 (by omega)
        have x2 := cx 2 (by omega)
        have x3 := cx 3 (by omega)
        simp only [List.getElem?_cons_zero, List.getElem?_cons_succ, ← Nat.add_assoc, Nat.add_zero] at x0 x1 x2 x3
        obtain ⟨i1, hi1⟩ : ∃ i1, i + 1 = i1 := ⟨_, rfl⟩
        have e2 : (i : Int) + 1 = (i1 : Int) := by omega
        have g1 : (i1 : Int) ≤ 1000000000 := by have := HH.out; omega
        have d5 : (i : Int) < (ln : Int) := by omega
        have d0 : (0 : Int) ≤ (i : Int) := by omega
        have HI := hide (And.intro hlt hi1)
        clear hlt hi1 hi cx
        go_wp2_with fail
        refine hcall.mono ?_
        rintro e w3 ⟨n', d', rfl, hb3⟩
        have HB3 := hide ((HBR.out).trans (hb3.mono HBR.out.size))
        clear hcall hb3
        by_cases hd : d' > d
        · go_wp2
          go_roundw
          case rel => exact ⟨_, _, i1, by have := HI.out; omega, rfl, rfl, by first | rfl | go_num, HB3.out⟩
          case measure => have := HI.out; simp [RowKit.intOf]; omega
        · go_wp2
          go_roundw
          case rel => exact ⟨_, _, i1, by have := HI.out; omega, rfl, rfl, by first | rfl | go_num, HB3.out⟩
          case measure => have := HI.out; simp [RowKit.intOf]; omega
      · obtain rfl : i = ln := by omega
        have d5 : ¬ (i : Int) < (i : Int) := by omega
        clear hlt hi
        go_wp2
        go_ret2
        exact ⟨_, _, rfl, HB1.out.trans (HBR.out.mono HB1.out.size)⟩

end Go.Proofs.YtacgocfgcoejpaaDoor
