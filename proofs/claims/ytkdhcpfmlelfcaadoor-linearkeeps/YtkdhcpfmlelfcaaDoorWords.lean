/- The contract of Words: it tells whether two lists of limbs are the same. -/
import Derived.Test.YtkdhcpfmlelfcaaDoorBRows
import Derived.Deep.QuietTactic
import Derived.BigQuiet
namespace Go.Proofs.YtkdhcpfmlelfcaaDoor
set_option linter.unusedVariables false
set_option linter.unusedSimpArgs false
open Go Go.RowKit Go.Shelf

theorem same_of_nth {xs ys : List Nat} (hl : xs.length = ys.length) (h : ∀ i, i < xs.length → nth xs i = nth ys i) : xs = ys := by
  apply List.ext_getElem hl
  intro i h1 h2
  have := h i h1
  rwa [nth_eq h1, nth_eq h2] at this

theorem ne_of_nth {xs ys : List Nat} {i : Nat} (h : nth xs i ≠ nth ys i) : xs ≠ ys := fun e => h (by rw [e])

set_option maxRecDepth 100000 in
set_option maxHeartbeats 2000000 in
theorem words_calls (w : World) (sv tv : Value) (xs ys : List Nat) (hx : Limbs w sv xs) (hy : Limbs w tv ys) :
    Calls Tryd.prog 11 #[sv, tv] w fun e w' => e = .returned (.bool (decide (xs = ys))) ∧ Below w.heap.size w w' := by
  obtain ⟨ao, cap, rfl, h1, h2, h3, h4⟩ := hx
  obtain ⟨bo, dap, rfl, k1, k2, k3, k4⟩ := hy
  by_cases hl : xs.length = ys.length
  · have hl' : ((xs.length : Int) != (ys.length : Int)) = false := by simp [hl]
    have Hl := hide hl
    clear hl
    go_enter Tryd.func11, Tryd.ntmps11
    go_wp2
    go_loopw [5] (fun i wr => ∃ k : Nat, k ≤ xs.length ∧ i = .int .i64 k ∧ (∀ j, j < k → nth xs j = nth ys j) ∧ Below w.heap.size w wr) (fun i _ => xs.length - (intOf i).toNat)
    case atStart => exact ⟨0, Nat.zero_le _, rfl, fun j hj => by omega, Below.refl _ _⟩
    case round =>
      obtain ⟨k, hk, rfl, hs, hB⟩ := hrel
      by_cases hlt : k < xs.length
      · have hlt2 : k < ys.length := by have := Hl.out; omega
        obtain ⟨b, off, rfl, hc⟩ := h4 k hlt
        obtain ⟨b', off', rfl, hc'⟩ := k4 k hlt2
        have c1 := (hB.cell (p := ⟨b, off + k, none⟩) (block_lt_of_cell hc)).trans hc
        have c2 := (hB.cell (p := ⟨b', off' + k, none⟩) (block_lt_of_cell hc')).trans hc'
        have Hs := hide hs
        have H4 := hide h4
        have K4 := hide k4
        clear hc hc' hs h4 k4
        by_cases hv : nth xs k = nth ys k
        · have hv' : (((nth xs k : Nat) : Int) != ((nth ys k : Nat) : Int)) = false := by simp [hv]
          have Hv := hide hv
          clear hv
          go_wp2
          go_quiet (fail)
          go_wp2
          go_roundw
          case rel => exact ⟨k + 1, by omega, by go_num, fun j hj => by rcases Nat.lt_succ_iff_lt_or_eq.1 hj with h | h; exact Hs.out j h; rw [h]; exact Hv.out, below_drewN hB _⟩
          case measure => simp [intOf]; omega
        · have hv' : (((nth xs k : Nat) : Int) != ((nth ys k : Nat) : Int)) = true := by simp; omega
          have Hv := hide hv
          clear hv
          go_wp2
          go_quiet (fail)
          go_wp2
          go_ret
          refine ⟨?_, below_drewN hB _⟩
          rw [decide_eq_false (ne_of_nth Hv.out)]
          rfl
      · go_wp2
        go_ret
        refine ⟨?_, hB⟩
        have : xs = ys := same_of_nth Hl.out (fun i hi => hs i (by omega))
        rw [decide_eq_true this]
        rfl
  · have hl' : ((xs.length : Int) != (ys.length : Int)) = true := by simp; omega
    have hd : decide (xs = ys) = false := by simp; intro e; exact hl (by rw [e])
    rw [hd]
    clear hd hl h4 k4
    go_enter Tryd.func11, Tryd.ntmps11
    go_wp2
    go_ret
    exact ⟨rfl, Below.refl _ _⟩

end Go.Proofs.YtkdhcpfmlelfcaaDoor
