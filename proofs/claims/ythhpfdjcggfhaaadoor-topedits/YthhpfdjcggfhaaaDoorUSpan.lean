/- Small functions of utf: within, lineOf, length. -/
import Derived.Test.YthhpfdjcggfhaaaDoorURLines
namespace Go.Proofs.YthhpfdjcggfhaaaDoor
set_option linter.unusedVariables false
set_option linter.unusedSimpArgs false
open Go Go.RowKit Go.Shelf Go.Lib

set_option maxHeartbeats 1000000 in
theorem within_calls (w : World) (ao : Option Addr) (m cap : Nat) (n : Int) :
    Calls Tryd.prog 49 #[.slice ao m cap, .int .i64 n] w fun e w' => e = .returned (.int .i64 (clamp n (m : Int))) ∧ w' = w := by
  by_cases h : n < 0
  · have e : clamp n (m : Int) = 0 := by unfold clamp; rw [if_pos h]
    rw [e]
    go_enter Tryd.func49, Tryd.ntmps49
    go_wp2
    go_ret
    exact ⟨by simp; omega, rfl⟩
  · by_cases k : n > (m : Int)
    · have e : clamp n (m : Int) = (m : Int) := by unfold clamp; rw [if_neg h, if_pos k]
      rw [e]
      go_enter Tryd.func49, Tryd.ntmps49
      go_wp2
      go_ret
      exact ⟨by simp; omega, rfl⟩
    · have e : clamp n (m : Int) = n := by unfold clamp; rw [if_neg h, if_neg k]
      rw [e]
      go_enter Tryd.func49, Tryd.ntmps49
      go_wp2
      go_ret
      exact ⟨by simp; omega, rfl⟩

/-- The last line that begins at a place or ahead of it; the first, if none does. -/
def LineOf (L : List Int) (a : Int) (n : Nat) : Prop := (n < L.length ∨ n = 0) ∧ (0 < n → nthI L n ≤ a) ∧ ∀ j, n < j → j < L.length → a < nthI L j

set_option maxRecDepth 100000 in
set_option maxHeartbeats 2000000 in
theorem lineOf_calls (w : World) (v : Value) (L : List Int) (a : Int) (h : IntsIn w v L) (hlen : L.length ≤ 1000000001) :
    Calls Tryd.prog 50 #[v, .int .i64 a] w fun e w' => ∃ n : Nat, e = .returned (.int .i64 (n : Int)) ∧ LineOf L a n ∧ w' = w := by
  obtain ⟨ao, cap, rfl, hc⟩ := h
  have HC := hide hc
  clear hc
  go_enter Tryd.func50, Tryd.ntmps50
  go_wp2
  go_loopw [5] (fun iv wr => ∃ (k : Nat) (i : Int), iv = .int .i64 i ∧ i = (k : Int) - 1 ∧ k ≤ L.length ∧ (∀ j, k ≤ j → j < L.length → a < nthI L j) ∧ wr = w) (fun iv _ => (RowKit.intOf iv + 1).toNat)
  case atStart => exact ⟨L.length, _, rfl, rfl, Nat.le_refl _, fun j h1 h2 => by omega, rfl⟩
  case round =>
    obtain ⟨k, i, rfl, hi, hk, hno, rfl⟩ := hrel
    have HN := hide hno
    clear hno
    by_cases hk1 : k ≤ 1
    · have hg : ¬ (i > 0) := by omega
      have HI := hide hi
      clear hi
      go_wp2
      go_ret
      refine ⟨0, rfl, ⟨.inr rfl, fun g => by omega, fun j h1 h2 => HN.out j (by omega) h2⟩, rfl⟩
    · obtain ⟨j, rfl⟩ : ∃ j, k = j + 1 := ⟨k - 1, by omega⟩
      obtain rfl : i = (j : Int) := by omega
      obtain ⟨b, off, rfl, c0⟩ := HC.out j (by omega)
      have hg : (j : Int) > 0 := by omega
      have hj0 : (0 : Int) ≤ (j : Int) := by omega
      have hjl : (j : Int) < (L.length : Int) := by omega
      obtain ⟨z, hz⟩ : ∃ z, nthI L j = z := ⟨_, rfl⟩
      rw [hz] at c0
      have HZ := hide hz
      clear hz hi
      by_cases hle : z ≤ a
      · go_wp2
        go_ret
        exact ⟨j, rfl, ⟨.inl (by omega), fun _ => by rw [HZ.out]; exact hle, fun q h1 h2 => HN.out q (by omega) h2⟩, rfl⟩
      · go_wp2
        go_roundw
        case rel =>
          refine ⟨j, _, rfl, rfl, by omega, fun q h1 h2 => ?_, trivial⟩
          rcases Nat.eq_or_lt_of_le h1 with g | g
          · rw [← g, HZ.out]; omega
          · exact HN.out q (by omega) h2
        case measure => simp [RowKit.intOf]

/-- How many bytes a letter has, as utf.length tells it. -/
def lenOf (r : Int) : Int := if r = -1 then 1 else if r < 0 then -1 else if r ≤ 127 then 1 else if r ≤ 2047 then 2 else if 55296 ≤ r ∧ r ≤ 57343 then -1 else if r ≤ 65535 then 3 else if r ≤ 1114111 then 4 else -1

theorem len_size {T : List Nat} (hT : ∀ x ∈ T, x < 256) {p : Nat} (hp : p < T.length) : lenOf (runeAt T p) = ((sizeAt T p : Nat) : Int) := by
  have hd : decL (T.drop p) = decodeN (T.length - p) (nth T (p + 0)) (nth T (p + 1)) (nth T (p + 2)) (nth T (p + 3)) := by
    unfold decL
    rw [if_neg (by rw [List.length_drop]; omega), List.length_drop, nth_drop, nth_drop, nth_drop, nth_drop]
  unfold runeAt sizeAt
  rw [hd]
  have b0 := nth_lt hT (p + 0)
  generalize nth T (p + 0) = x0 at *
  generalize nth T (p + 1) = x1 at *
  generalize nth T (p + 2) = x2 at *
  generalize nth T (p + 3) = x3 at *
  have fin : ∀ r : Nat × Nat, decodeN (T.length - p) x0 x1 x2 x3 = r → lenOf (if r.1 = 65533 ∧ r.2 = 1 then -1 else ((r.1 : Nat) : Int)) = ((r.2 : Nat) : Int) := by
    intro r hr
    unfold decodeN at hr
    repeat' split at hr
    all_goals (subst hr; dsimp only)
    all_goals first
      | (simp [lenOf]; done)
      | (rw [if_neg (by omega)]; unfold lenOf; repeat' split
         all_goals first | omega | (exfalso; omega))
  exact fin _ rfl

set_option maxHeartbeats 2000000 in
theorem length_calls (w : World) (r : Int) :
    Calls Tryd.prog 52 #[.int .i32 r] w fun e w' => e = .returned (.int .i64 (lenOf r)) ∧ w' = w := by
  by_cases h1 : r = -1
  · subst h1
    have e : lenOf (-1) = 1 := rfl
    rw [e]
    go_enter Tryd.func52, Tryd.ntmps52
    go_wp2
    go_ret
    exact ⟨rfl, rfl⟩
  · have h1' : (r == -1) = false := beq_eq_false_iff_ne.2 h1
    have hl : lenOf r = if r < 0 then -1 else if r ≤ 127 then 1 else if r ≤ 2047 then 2 else if 55296 ≤ r ∧ r ≤ 57343 then -1 else if r ≤ 65535 then 3 else if r ≤ 1114111 then 4 else -1 := by unfold lenOf; rw [if_neg h1]
    have HR : Hid (Calls Tryd.prog 59 #[.int .i32 r] w fun e w' => e = .returned (.int .i64 (lenOf r)) ∧ w' = w) := by
      rw [hl]
      clear hl h1 h1'
      by_cases a1 : r < 0
      · rw [if_pos a1]
        go_enter Tryd.func59, Tryd.ntmps59
        go_wp2
        go_ret
        exact ⟨rfl, rfl⟩
      rw [if_neg a1]
      by_cases a2 : r ≤ 127
      · rw [if_pos a2]
        go_enter Tryd.func59, Tryd.ntmps59
        go_wp2
        go_ret
        exact ⟨rfl, rfl⟩
      rw [if_neg a2]
      by_cases a3 : r ≤ 2047
      · rw [if_pos a3]
        go_enter Tryd.func59, Tryd.ntmps59
        go_wp2
        go_ret
        exact ⟨rfl, rfl⟩
      rw [if_neg a3]
      by_cases a4 : 55296 ≤ r
      · by_cases a5 : r ≤ 57343
        · rw [if_pos ⟨a4, a5⟩]
          go_enter Tryd.func59, Tryd.ntmps59
          go_wp2
          go_ret
          exact ⟨rfl, rfl⟩
        · rw [if_neg (fun g => a5 g.2)]
          by_cases a6 : r ≤ 65535
          · rw [if_pos a6]
            go_enter Tryd.func59, Tryd.ntmps59
            go_wp2
            go_ret
            exact ⟨rfl, rfl⟩
          rw [if_neg a6]
          by_cases a7 : r ≤ 1114111
          · rw [if_pos a7]
            go_enter Tryd.func59, Tryd.ntmps59
            go_wp2
            go_ret
            exact ⟨rfl, rfl⟩
          · rw [if_neg a7]
            go_enter Tryd.func59, Tryd.ntmps59
            go_wp2
            go_ret
            exact ⟨rfl, rfl⟩
      · have a6 : r ≤ 65535 := by omega
        rw [if_neg (fun g => a4 g.1), if_pos a6]
        go_enter Tryd.func59, Tryd.ntmps59
        go_wp2
        go_ret
        exact ⟨rfl, rfl⟩
    clear hl h1
    generalize hz : lenOf r = z at *
    clear hz
    go_enter Tryd.func52, Tryd.ntmps52
    go_wp2_with (go_at_call 59; refine HR.out.mono ?_; rintro e w' ⟨rfl, hw⟩; rw [hw])
    go_ret
    exact ⟨rfl, rfl⟩

end Go.Proofs.YthhpfdjcggfhaaaDoor
