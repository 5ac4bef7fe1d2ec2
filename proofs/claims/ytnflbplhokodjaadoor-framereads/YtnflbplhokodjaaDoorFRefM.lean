/- Frame: the messages of a whole stream, header by header. -/
import Derived.Test.YtnflbplhokodjaaDoorFRun
namespace Go.Proofs.YtnflbplhokodjaaDoor
set_option linter.unusedVariables false
set_option linter.unusedSimpArgs false

theorem run_pos (h : Hd) (l : List Nat) : match runH h l with
    | .opn _ => True
    | .whole k _ => 1 ≤ k ∧ k ≤ l.length
    | .broken k => 1 ≤ k ∧ k ≤ l.length := by
  induction l generalizing h with
  | nil => exact trivial
  | cons c l ih =>
    rw [runH_cons]
    rcases addL h c with ⟨q, h'⟩
    cases q with
    | opn =>
      have := ih h'
      simp only
      revert this
      cases runH h' l with
      | opn _ => exact fun _ => trivial
      | whole k n =>
        intro this
        simp only [HR.later, List.length_cons]
        simp only at this
        omega
      | broken k =>
        intro this
        simp only [HR.later, List.length_cons]
        simp only at this
        omega
    | whole => simp
    | none => simp
/-- The messages of a stream from byte p on, header by header, so many at most. -/
def refM : Nat → List Nat → Nat → List (Msg × Nat)
  | 0, _, _ => []
  | f + 1, b, p => match runH hd0 (b.drop p) with
    | .opn _ => []
    | .broken k => [((3, []), p + k)]
    | .whole k n => (if 16777216 < n then [((2, []), p + k)] else []) ++
        (if b.length - (p + k) < n then [] else (if n ≤ 16777216 then [((1, (b.drop (p + k)).take n), p + k + n)] else []) ++ refM f b (p + k + n))
theorem refM_succ (f : Nat) (b : List Nat) (p : Nat) : refM (f + 1) b p = match runH hd0 (b.drop p) with
    | .opn _ => []
    | .broken k => [((3, []), p + k)]
    | .whole k n => (if 16777216 < n then [((2, []), p + k)] else []) ++
        (if b.length - (p + k) < n then [] else (if n ≤ 16777216 then [((1, (b.drop (p + k)).take n), p + k + n)] else []) ++ refM f b (p + k + n)) := rfl
theorem ref_feed (f : Nat) (b : List Nat) (p : Nat) (hf : b.length < p + f) : feedE (.head hd0) p (b.drop p) = refM f b p := by
  induction f generalizing p with
  | zero =>
    have : b.drop p = [] := List.drop_of_length_le (by omega)
    rw [this]
    rfl
  | succ f ih =>
    rw [run_feed, refM_succ]
    have hk := run_pos hd0 (b.drop p)
    cases hr : runH hd0 (b.drop p) with
    | opn _ => rfl
    | broken k => rfl
    | whole k n =>
      rw [hr] at hk
      simp only at hk ⊢
      have hkl := hk.2
      rw [List.length_drop] at hkl
      have hdd : (b.drop p).drop k = b.drop (p + k) := List.drop_drop
      have hln : (b.drop (p + k)).length = b.length - (p + k) := List.length_drop
      rw [hdd]
      unfold beginL
      by_cases h0 : n = 0
      · subst h0
        rw [if_pos rfl, if_neg (by omega), if_neg (by omega), if_pos (by omega)]
        simp only [List.map_cons, List.map_nil, List.nil_append, List.take_zero, Nat.add_zero]
        rw [ih (p + k) (by omega)]
      · rw [if_neg h0]
        by_cases h1 : 16777216 < n
        · rw [if_pos h1, if_pos h1]
          simp only [List.map_cons, List.map_nil]
          rw [feedE_skip n (p + k) _ (by omega), hln, if_neg (show ¬ n ≤ 16777216 by omega)]
          by_cases h2 : b.length - (p + k) < n
          · rw [if_pos h2, if_pos h2]
          · rw [if_neg h2, if_neg h2, List.drop_drop, List.nil_append, ih (p + k + n) (by omega)]
        · rw [if_neg h1, if_neg h1]
          simp only [List.map_nil, List.nil_append]
          rw [feedE_body n (p + k) [] _ (by omega), hln, if_pos (show n ≤ 16777216 by omega)]
          by_cases h2 : b.length - (p + k) < n
          · rw [if_pos h2, if_pos h2]
          · rw [if_neg h2, if_neg h2, List.drop_drop, List.nil_append, ih (p + k + n) (by omega)]
            rfl

end Go.Proofs.YtnflbplhokodjaaDoor
