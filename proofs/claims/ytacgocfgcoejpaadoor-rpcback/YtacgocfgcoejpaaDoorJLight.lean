/- Json: light: has a value no more parts than some. -/
import Derived.Test.YtacgocfgcoejpaaDoorJTree
namespace Go.Proofs.YtacgocfgcoejpaaDoor
set_option linter.unusedVariables false
set_option linter.unusedSimpArgs false
set_option maxRecDepth 100000
open Go Go.RowKit Go.Shelf Go.Lib

def LightR (T : JT) (w : World) (e : Ending) (w' : World) : Prop := ∃ b : Bool, e = .returned (.bool b) ∧ (b = true → LtT T) ∧ Below w.heap.size w w'
theorem lightR_false {T : JT} {w w' : World} (hb : Below w.heap.size w w') : LightR T w (.returned (.bool false)) w' := ⟨false, rfl, fun h => (by cases h), hb⟩

set_option maxHeartbeats 16000000 in
theorem light_any {W : World} {S : Nat → Prop} {x : JC} {T : JT} (h : TIn W S x T) : ∀ (w : World) (d : Nat), Below W.heap.size W w → Calls Tryd.prog 16 #[vagg x, .int .i64 (d : Int)] w (LightR T w) := by
  induction h with
  | mk k s kv la lc K L xs hK hc hsl ht ih =>
    intro w d hW
    obtain ⟨ka, kc, rfl, hKc⟩ := hK
    unfold vagg
    simp only
    have hb1 := bel w (.cells #[.int .i64 k, .string s, .slice ka K.length kc, .slice la L.length lc] 25)
    have hx1 := BoxC.new w 25 #[.int .i64 k, .string s, .slice ka K.length kc, .slice la L.length lc]
    obtain ⟨w1, hw1⟩ : ∃ w1, w.alloc (.cells #[.int .i64 k, .string s, .slice ka K.length kc, .slice la L.length lc] 25) = w1 := ⟨_, rfl⟩
    rw [hw1] at hb1 hx1
    have hW1 := hW.trans (hb1.mono hW.size)
    have HKC : Hid (∀ j, j < K.length → ∃ b off, ka = some ⟨b, off, none⟩ ∧ w1.cell? ⟨b, off + j, none⟩ = some (.string (nthS K j))) := fun j hj => by
      obtain ⟨b, off, e, _, hx⟩ := hKc j hj
      exact ⟨b, off, e, (hW1.cell (p := ⟨b, off + j, none⟩) (block_lt hx)).trans hx⟩
    have HLC : Hid (∀ w2, Below w1.heap.size w1 w2 → ∀ i, i < L.length → ∃ b off, la = some ⟨b, off, none⟩ ∧ ∀ r, r < 4 → w2.cell? ⟨b, off + (i * 4 + r), none⟩ = (vcell (xs i))[r]?) := fun w2 h2 i hi => by
      obtain ⟨b, off, e, _, hx⟩ := hc i hi
      have hW2 := hW1.trans (h2.mono hW1.size)
      refine ⟨b, off, e, fun r hr => ?_⟩
      have h0 := hx 0 (by omega)
      simp only [vcell, List.getElem?_cons_zero] at h0
      exact (hW2.cell (p := ⟨b, off + (i * 4 + r), none⟩) (block_lt h0)).trans (hx r hr)
    have HIH : Hid (∀ i (hi : i < L.length) w2 d2, Below w1.heap.size w1 w2 → Calls Tryd.prog 16 #[vagg (xs i), .int .i64 ((d2 : Nat) : Int)] w2 (LightR L[i] w2)) := fun i hi w2 d2 h2 => ih i hi w2 d2 (hW1.trans (h2.mono hW1.size))
    have HW1 := hide hw1
    have HB1 := hide hb1
    have HX1 := hide hx1
    have HSL := hide hsl
    have v1 : w1.cell? ⟨w.heap.size, 1, none⟩ = some (.string s) := hx1.cell 1
    have v2 : w1.cell? ⟨w.heap.size, 2, none⟩ = some (.slice ka K.length kc) := hx1.cell 2
    have v3 : w1.cell? ⟨w.heap.size, 3, none⟩ = some (.slice la L.length lc) := hx1.cell 3
    have lV := hx1.lt
    obtain ⟨kn, hkn⟩ : ∃ kn, K.length = kn := ⟨_, rfl⟩
    obtain ⟨ln, hln⟩ : ∃ ln, L.length = ln := ⟨_, rfl⟩
    rw [hkn] at v2 HKC HX1 HW1
    rw [hln] at v3 HX1 HW1
    have HKN := hide hkn
    have HLN := hide hln
    rw [hkn, hln]
    clear hb1 hx1 hw1 hW hW1 hKc hc ht ih hsl hkn hln
    by_cases h1 : ln > 100
    · have d1 : (ln : Int) > 100 := by omega
      clear h1
      go_enter Tryd.func16, Tryd.ntmps16
      go_upto_region 1 with fail
      rw [HW1.out]
      clear HW1
      go_wp2
      go_ret
      exact lightR_false HB1.out
    have d1 : ¬ (ln : Int) > 100 := by omega
    by_cases h2 : kn > 100
    · have d2 : (kn : Int) > 100 := by omega
      clear h1 h2
      go_enter Tryd.func16, Tryd.ntmps16
      go_upto_region 1 with fail
      rw [HW1.out]
      clear HW1
      go_wp2
      go_ret
      exact lightR_false HB1.out
    have d2 : ¬ (kn : Int) > 100 := by omega
    by_cases h3 : s.size > 1000
    · have d3 : (s.size : Int) > 1000 := by omega
      clear h1 h2 h3
      go_enter Tryd.func16, Tryd.ntmps16
      go_upto_region 1 with fail
      rw [HW1.out]
      clear HW1
      go_wp2
      go_ret
      exact lightR_false HB1.out
    have d3 : ¬ (s.size : Int) > 1000 := by omega
    by_cases h4 : d > 90
    · have d4 : (d : Int) > 90 := by omega
      clear h1 h2 h3 h4
      go_enter Tryd.func16, Tryd.ntmps16
      go_upto_region 1 with fail
      rw [HW1.out]
      clear HW1
      go_wp2
      go_ret
      exact lightR_false HB1.out
    have d4 : ¬ (d : Int) > 90 := by omega
    have HH : Hid (ln ≤ 100 ∧ kn ≤ 100 ∧ s.size ≤ 1000 ∧ d ≤ 90) := ⟨by omega, by omega, by omega, by omega⟩
    obtain ⟨e1, he1⟩ : ∃ e1, d + 1 = e1 := ⟨_, rfl⟩
    have ee : (d : Int) + 1 = (e1 : Int) := by omega
    have ge : (e1 : Int) ≤ 1000000000 := by omega
    clear h1 h2 h3 h4 he1
    go_enter Tryd.func16, Tryd.ntmps16
    go_upto_region 1 with fail
    rw [HW1.out]
    clear HW1
    go_wp2
    go_loopw [5] (fun iv wr => ∃ j : Nat, j ≤ kn ∧ iv = .int .i64 (j : Int) ∧ w1 = wr) (fun iv _ => kn - (RowKit.intOf iv).toNat)
    case atStart => exact ⟨0, Nat.zero_le _, rfl, rfl⟩
    case round =>
      obtain ⟨j, hj, rfl, rfl⟩ := hrel
      by_cases hlt : j < kn
      · obtain ⟨b, off, rfl, cx⟩ := HKC.out j hlt
        obtain ⟨j1, hj1⟩ : ∃ j1, j + 1 = j1 := ⟨_, rfl⟩
        have e2 : (j : Int) + 1 = (j1 : Int) := by omega
        have g1 : (j1 : Int) ≤ 1000000000 := by have := HH.out; omega
        have d5 : (j : Int) < (kn : Int) := by omega
        have d0 : (0 : Int) ≤ (j : Int) := by omega
        have HI := hide (And.intro hlt hj1)
        generalize nthS K j = t at *
        clear hlt hj1 hj
        by_cases hbig : t.size > 200
        · have d6 : (t.size : Int) > 200 := by omega
          clear hbig
          go_wp2
          go_ret
          exact lightR_false HB1.out
        · have d6 : ¬ (t.size : Int) > 200 := by omega
          clear hbig
          go_wp2
          go_roundw
          case rel => exact ⟨j1, by have := HI.out; omega, by first | rfl | go_num, trivial⟩
          case measure => have := HI.out; simp [RowKit.intOf]; omega
      · obtain rfl : j = kn := by omega
        have d5 : ¬ (j : Int) < (j : Int) := by omega
        clear hlt hj
        go_wp2
        go_loopw [6] (fun iv wr => ∃ i : Nat, i ≤ ln ∧ iv = .int .i64 (i : Int) ∧ Below w1.heap.size w1 wr ∧ ∀ q (hq : q < L.length), q < i → LtT L[q]) (fun iv _ => ln - (RowKit.intOf iv).toNat)
        case atStart => exact ⟨0, Nat.zero_le _, rfl, Below.refl _ _, fun q _ h => by omega⟩
        case round =>
          obtain ⟨i, hi, rfl, hB, hL⟩ := hrel
          have HL := hide hL
          have HBR := hide hB
          have c3 : wr.cell? ⟨w.heap.size, 3, none⟩ = some (.slice la ln lc) := (hB.cell (p := ⟨w.heap.size, 3, none⟩) lV).trans v3
          clear hL hB
          by_cases hlt : i < ln
          · obtain ⟨b, off, rfl, cx⟩ := HLC.out wr HBR.out i (by have := HLN.out; omega)
            obtain ⟨hs2, hs3⟩ := HSL.out i (by have := HLN.out; omega)
            have hcall := HIH.out i (by have := HLN.out; omega) wr e1 HBR.out
            obtain ⟨Ti, hTi⟩ : ∃ Ti, ∀ h : i < L.length, L[i] = Ti := ⟨L[i]'(by have := HLN.out; omega), fun _ => rfl⟩
            rw [hTi] at hcall
            have HTI := hide hTi
            clear hTi
            generalize xs i = y at *
            obtain ⟨yk, ys, yK, yL⟩ := y
            simp only [vagg, vcell] at hcall cx hs2 hs3
            obtain ⟨ka', kl', kc', rfl⟩ := hs2
            obtain ⟨la', ll', lc', rfl⟩ := hs3
            have x0 := cx 0 (by omega)
            have x1 := cx 1 (by omega)
            have x2 := cx 2 (by omega)
            have x3 := cx 3 (by omega)
            simp only [List.getElem?_cons_zero, List.getElem?_cons_succ, ← Nat.add_assoc, Nat.add_zero] at x0 x1 x2 x3
            obtain ⟨i1, hi1⟩ : ∃ i1, i + 1 = i1 := ⟨_, rfl⟩
            have e2 : (i : Int) + 1 = (i1 : Int) := by omega
            have g1 : (i1 : Int) ≤ 1000000000 := by have := HH.out; omega
            have d5 : (i : Int) < (ln : Int) := by omega
            have d0 : (0 : Int) ≤ (i : Int) := by omega
            have HI := hide (And.intro hlt hi1)
            clear hlt hi1 hi cx
            go_wp2_with fail
            refine hcall.mono ?_
            rintro e w3 ⟨r, rfl, hlt, hb3⟩
            have HB3 := hide ((HBR.out).trans (hb3.mono HBR.out.size))
            have HLt := hide hlt
            clear hcall hb3 hlt
            cases r
            · go_wp2
              go_ret
              exact lightR_false (HB1.out.trans (HB3.out.mono HB1.out.size))
            · go_wp2
              go_roundw
              case rel =>
                refine ⟨i1, by have := HI.out; omega, by first | rfl | go_num, HB3.out, fun q hq hl => ?_⟩
                rcases Nat.lt_or_ge q i with h | h
                · exact HL.out q hq h
                · have : q = i := by have := HI.out; omega
                  subst this
                  rw [HTI.out]
                  exact HLt.out trivial
              case measure => have := HI.out; simp [RowKit.intOf]; omega
          · obtain rfl : i = ln := by omega
            have d5 : ¬ (i : Int) < (i : Int) := by omega
            clear hlt hi
            go_wp2
            go_ret
            refine ⟨true, rfl, fun _ => ?_, HB1.out.trans (HBR.out.mono HB1.out.size)⟩
            have := HH.out
            exact .mk k s K L (by have := HKN.out; omega) (by have := HLN.out; omega) (by omega) (fun q hq => HL.out q hq (by have := HLN.out; omega))

end Go.Proofs.YtacgocfgcoejpaaDoor
