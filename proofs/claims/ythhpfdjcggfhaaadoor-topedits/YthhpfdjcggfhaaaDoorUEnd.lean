/- Where a line's letters end, as the reference finds it; utf's within. -/
import Derived.Test.YthhpfdjcggfhaaaDoorUSmall
namespace Go.Proofs.YthhpfdjcggfhaaaDoor
set_option linter.unusedVariables false
set_option linter.unusedSimpArgs false
open Go Go.RowKit Go.Shelf Go.Lib

/-- The first byte 10 or 13 from a place on, or the end. -/
def IsEnd (T : List Nat) (f e : Nat) : Prop := f ≤ e ∧ e ≤ T.length ∧ (∀ j, f ≤ j → j < e → nth T j ≠ 10 ∧ nth T j ≠ 13) ∧ (e < T.length → nth T e = 10 ∨ nth T e = 13)

set_option maxRecDepth 100000 in
set_option maxHeartbeats 2000000 in
theorem rend_calls (w : World) (ao : Option Addr) (cap : Nat) (T : List Nat) (f : Nat) (h : Byts w (.slice ao T.length cap) T) (hf : f ≤ T.length) (hlen : T.length ≤ 1000000000) :
    Calls Tryd.prog 37 #[.slice ao T.length cap, .int .i64 (f : Int)] w fun e w' => ∃ n : Nat, e = .returned (.int .i64 (n : Int)) ∧ IsEnd T f n ∧ w' = w := by
  obtain ⟨ao', cap', e, hb, hc⟩ := h
  cases e
  go_enter Tryd.func37, Tryd.ntmps37
  go_wp2
  go_loopw [5] (fun i wr => ∃ k : Nat, f ≤ k ∧ k ≤ T.length ∧ i = .int .i64 (k : Int) ∧ (∀ j, f ≤ j → j < k → nth T j ≠ 10 ∧ nth T j ≠ 13) ∧ wr = w) (fun i _ => T.length - (RowKit.intOf i).toNat)
  case atStart => exact ⟨f, Nat.le_refl _, hf, rfl, fun j h1 h2 => by omega, rfl⟩
  case round =>
    obtain ⟨k, h1, h2, rfl, h3, rfl⟩ := hrel
    have H3 := hide h3
    clear h3
    by_cases hlt : k < T.length
    · obtain ⟨b, off, rfl, c0⟩ := hc k hlt
      have l0 := nth_lt hb k
      have d1 : (k : Int) < (T.length : Int) := by omega
      have d0 : (0 : Int) ≤ (k : Int) := by omega
      generalize hx : nth T k = x at *
      have HX := hide hx
      clear hx hc hb
      by_cases x10 : x = 10
      · have e1 : ((x : Int) == 10) = true := by rw [x10]; rfl
        have HE : Hid (x = 10 ∨ x = 13) := .inl x10
        clear x10
        go_wp2
        go_ret
        exact ⟨k, rfl, ⟨h1, h2, H3.out, fun _ => by rw [HX.out]; exact HE.out⟩, rfl⟩
      · have e1 : ((x : Int) == 10) = false := beq_eq_false_iff_ne.2 (by omega)
        by_cases x13 : x = 13
        · have e2 : ((x : Int) == 13) = true := by rw [x13]; rfl
          have HE : Hid (x = 10 ∨ x = 13) := .inr x13
          clear x10 x13
          go_wp2
          go_ret
          exact ⟨k, rfl, ⟨h1, h2, H3.out, fun _ => by rw [HX.out]; exact HE.out⟩, rfl⟩
        · have e2 : ((x : Int) == 13) = false := beq_eq_false_iff_ne.2 (by omega)
          have HE : Hid (x ≠ 10 ∧ x ≠ 13) := ⟨x10, x13⟩
          clear x10 x13
          go_wp2
          go_roundw
          case rel =>
            refine ⟨k + 1, by omega, by omega, by go_num, fun j g1 g2 => ?_, trivial⟩
            rcases Nat.lt_succ_iff_lt_or_eq.1 g2 with g | g
            · exact H3.out j g1 g
            · rw [g, HX.out]; exact HE.out
          case measure => simp [RowKit.intOf]; omega
    · obtain rfl : k = T.length := by omega
      clear hc
      go_wp2
      go_ret
      exact ⟨T.length, rfl, ⟨h1, Nat.le_refl _, H3.out, fun g => by omega⟩, rfl⟩

end Go.Proofs.YthhpfdjcggfhaaaDoor
