/- Json: slices.Equal of rows of strings. -/
import Derived.Test.YtacgocfgcoejpaaDoorJREq
namespace Go.Proofs.YtacgocfgcoejpaaDoor
set_option linter.unusedVariables false
set_option linter.unusedSimpArgs false
set_option maxRecDepth 100000
open Go Go.RowKit Go.Shelf Go.Lib

def SeqR (w : World) (K K' : List ByteArray) (e : Ending) (w' : World) : Prop := e = .returned (.bool (decide (K = K'))) ∧ Below w.heap.size w w'
set_option maxHeartbeats 8000000 in
theorem seq_any {W : World} {S S' : Nat → Prop} {u v : Value} {K K' : List ByteArray} (h : StrsS W S u K) (h' : StrsS W S' v K') (hl : K.length ≤ 1000) (w : World) (hW : Below W.heap.size W w) : Calls Tryd.prog 27 #[u, v] w (SeqR w K K') := by
  obtain ⟨ka, kc, rfl, hKc⟩ := h
  obtain ⟨ka', kc', rfl, hKc'⟩ := h'
  obtain ⟨kn, hkn⟩ : ∃ kn, K.length = kn := ⟨_, rfl⟩
  obtain ⟨kn', hkn'⟩ : ∃ kn, K'.length = kn := ⟨_, rfl⟩
  have HKC : Hid (∀ w2, Below w.heap.size w w2 → ∀ j, j < kn → ∃ b off, ka = some ⟨b, off, none⟩ ∧ w2.cell? ⟨b, off + j, none⟩ = some (.string (nthS K j))) := fun w2 h2 j hj => by
    obtain ⟨b, off, e, _, hx⟩ := hKc j (by omega)
    exact ⟨b, off, e, ((hW.trans (h2.mono hW.size)).cell (p := ⟨b, off + j, none⟩) (block_lt hx)).trans hx⟩
  have HKC' : Hid (∀ w2, Below w.heap.size w w2 → ∀ j, j < kn' → ∃ b off, ka' = some ⟨b, off, none⟩ ∧ w2.cell? ⟨b, off + j, none⟩ = some (.string (nthS K' j))) := fun w2 h2 j hj => by
    obtain ⟨b, off, e, _, hx⟩ := hKc' j (by omega)
    exact ⟨b, off, e, ((hW.trans (h2.mono hW.size)).cell (p := ⟨b, off + j, none⟩) (block_lt hx)).trans hx⟩
  have HKN := hide hkn
  have HKN' := hide hkn'
  have HH : Hid (kn ≤ 1000) := by show kn ≤ 1000; omega
  rw [hkn, hkn']
  clear hKc hKc' hW hkn hkn' hl
  by_cases hK : kn = kn'
  rotate_left
  · have d1 : ((kn : Int) != (kn' : Int)) = true := by simp; omega
    have HKK := hide hK
    clear hK
    go_enter Tryd.func27, Tryd.ntmps27
    go_wp2
    go_ret
    refine ⟨?_, Below.refl _ _⟩
    rw [decide_eq_false (fun e => by have e := congrArg List.length e; have := HKK.out; have := HKN.out; have := HKN'.out; omega)]
    rfl
  subst hK
  go_enter Tryd.func27, Tryd.ntmps27
  go_wp2
  go_loopw [13] (fun iv wr => ∃ j : Nat, j ≤ kn ∧ iv = .int .i64 (j : Int) ∧ Below w.heap.size w wr ∧ ∀ q, q < j → nthS K q = nthS K' q) (fun iv _ => kn - (RowKit.intOf iv).toNat)
  case atStart => exact ⟨0, Nat.zero_le _, rfl, Below.refl _ _, fun q h => by omega⟩
  case round =>
    obtain ⟨j, hj, rfl, hB, hQ⟩ := hrel
    have HQ := hide hQ
    have HB2 := hide hB
    clear hB hQ
    generalize wr = wo at *
    by_cases hlt : j < kn
    · obtain ⟨b, off, rfl, cx⟩ := HKC.out wo HB2.out j hlt
      obtain ⟨b', off', rfl, cy⟩ := HKC'.out wo HB2.out j hlt
      obtain ⟨j1, hj1⟩ : ∃ j1, j + 1 = j1 := ⟨_, rfl⟩
      have e2 : (j : Int) + 1 = (j1 : Int) := by omega
      have g1 : (j1 : Int) ≤ 1000000000 := by have := HH.out; omega
      have d5 : (j : Int) < (kn : Int) := by omega
      have d0 : (0 : Int) ≤ (j : Int) := by omega
      have HI := hide (And.intro hlt hj1)
      obtain ⟨t, ht⟩ : ∃ t, nthS K j = t := ⟨_, rfl⟩
      obtain ⟨u, hu⟩ : ∃ u, nthS K' j = u := ⟨_, rfl⟩
      rw [ht] at cx
      rw [hu] at cy
      have HTJ := hide ht
      have HUJ := hide hu
      clear hlt hj1 hj ht hu
      by_cases htu : t = u
      · subst htu
        go_wp2
        go_quiet (fail)
        go_wp2
        go_roundw
        case rel =>
          refine ⟨j1, by have := HI.out; omega, by first | rfl | go_num, below_drewN HB2.out _, fun q hq => ?_⟩
          rcases Nat.lt_or_ge q j with h | h
          · exact HQ.out q h
          · obtain rfl : q = j := by have := HI.out; omega
            rw [HTJ.out, HUJ.out]
        case measure => have := HI.out; simp [RowKit.intOf]; omega
      · have dne : (t.toList == u.toList) = false := str_ne htu
        have dne2 : (t.toList != u.toList) = true := by rw [bne, dne]; rfl
        have HKK := hide htu
        clear htu
        go_wp2
        go_quiet (fail)
        go_wp2
        go_ret
        refine ⟨?_, below_drewN HB2.out _⟩
        rw [decide_eq_false (fun e => by rw [e] at HTJ; exact HKK.out (HTJ.out.symm.trans HUJ.out))]
        rfl
    · obtain rfl : j = kn := by omega
      have d5 : ¬ (j : Int) < (j : Int) := by omega
      have HQK : Hid (K = K') := keys_same (by have := HKN.out; have := HKN'.out; omega) (fun q hq => HQ.out q (by have := HKN.out; omega))
      clear hlt hj
      go_wp2
      go_ret
      refine ⟨?_, HB2.out⟩
      rw [decide_eq_true HQK.out]
      rfl

end Go.Proofs.YtacgocfgcoejpaaDoor
