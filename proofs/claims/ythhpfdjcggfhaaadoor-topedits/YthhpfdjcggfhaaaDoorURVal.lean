/- The reference's Valid and Units. -/
import Derived.Test.YthhpfdjcggfhaaaDoorULets
import Derived.Test.YthhpfdjcggfhaaaDoorUSmall
namespace Go.Proofs.YthhpfdjcggfhaaaDoor
set_option linter.unusedVariables false
set_option linter.unusedSimpArgs false
open Go Go.RowKit Go.Shelf Go.Lib

theorem rune_sign (T : List Nat) (p : Nat) : runeAt T p = -1 ∨ 0 ≤ runeAt T p := by
  unfold runeAt
  split
  · exact .inl rfl
  · exact .inr (by omega)
theorem told_one {T : List Nat} {N a a' : Nat} {e e' : Int} (h : Told T N a e) (h' : Told T N a' e') : a = a' ∧ e = e' := by
  rcases h with ⟨k, hk, h1, h2, rfl, rfl⟩ | ⟨h1, rfl, rfl⟩ <;> rcases h' with ⟨k', hk', h1', h2', rfl, rfl⟩ | ⟨h1', rfl, rfl⟩
  · have : k = k' := by
      rcases Nat.lt_trichotomy k k' with g | g | g
      · exact absurd h2 (h1' k g)
      · exact g
      · exact absurd h2' (h1 k' g)
    rw [this]; exact ⟨rfl, rfl⟩
  · exact absurd h2 (h1' k hk)
  · exact absurd h2' (h1 k' hk')
  · exact ⟨rfl, rfl⟩

set_option maxRecDepth 100000 in
set_option maxHeartbeats 4000000 in
theorem rvalid_calls (w : World) (ao : Option Addr) (cap : Nat) (T : List Nat) (N : Nat) (h : Byts w (.slice ao T.length cap) T) (hcap : T.length ≤ cap) (h1 : ∀ k, k < N → posL T k < T.length) (h2 : posL T N = T.length) (hlen : T.length ≤ 1000000000) :
    Calls Tryd.prog 30 #[.slice ao T.length cap] w fun e w' => ∃ (a : Nat) (er : Int), e = .returned (.tuple #[.int .i64 (a : Int), .int .i64 er]) ∧ Told T N a er ∧ Below w.heap.size w w' := by
  have hN : N ≤ T.length := by have := posL_ge h.small h1 N (Nat.le_refl _); omega
  have HL := hide (rletters_calls w ao cap T N h hcap h1 h2 hlen)
  clear h h1 h2
  go_enter Tryd.func30, Tryd.ntmps30
  go_wp2_with (go_at_call 38; refine HL.out.mono ?_; rintro e W1 ⟨rv, rfl, hl, hb⟩)
  obtain ⟨lo, lc, rfl, hc⟩ := hl
  have HC := hide hc
  have HB := hide hb
  clear hc hb HL
  go_loopw [5] (fun i wr => ∃ k : Nat, k ≤ N ∧ i = .int .i64 (k : Int) ∧ (∀ j, j < k → runeAt T (posL T j) ≠ -1) ∧ wr = W1) (fun i _ => N - (RowKit.intOf i).toNat)
  case atStart => exact ⟨0, Nat.zero_le _, rfl, fun j hj => by omega, rfl⟩
  case round =>
    obtain ⟨k, hk, rfl, hno, rfl⟩ := hrel
    have HN := hide hno
    clear hno
    by_cases hlt : k < N
    · obtain ⟨b, rfl, c0, c1, c2⟩ := HC.out k hlt
      have hs := rune_sign T (posL T k)
      have d1 : (k : Int) < (N : Int) := by omega
      have d0 : (0 : Int) ≤ (k : Int) := by omega
      have hkm : k * 3 = 3 * k := by omega
      generalize hP : posL T k = P at *
      generalize hR : runeAt T P = R at *
      have HP := hide hP
      have HR := hide hR
      clear hP hR
      by_cases hneg : R < 0
      · have hR1 : R = -1 := by omega
        have HR1 := hide hR1
        clear hR1 hs
        go_wp2
        go_ret2
        exact ⟨P, 10, rfl, .inl ⟨k, hlt, HN.out, by rw [HP.out, HR.out, HR1.out], by rw [HP.out], rfl⟩, HB.out⟩
      · clear hs
        go_wp2
        go_roundw
        case rel =>
          refine ⟨k + 1, by omega, by go_num, fun j hj => ?_, trivial⟩
          rcases Nat.lt_succ_iff_lt_or_eq.1 hj with g | g
          · exact HN.out j g
          · rw [g, HP.out, HR.out]; omega
        case measure => simp [RowKit.intOf]; omega
    · obtain rfl : k = N := by omega
      have d1 : ¬ (k : Int) < (k : Int) := by omega
      go_wp2
      go_ret2
      exact ⟨0, 0, rfl, .inr ⟨HN.out, rfl, rfl⟩, HB.out⟩


end Go.Proofs.YthhpfdjcggfhaaaDoor
