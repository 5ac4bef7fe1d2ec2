/- Frame: messages and where they end; a header by the bytes that it takes. -/
import Derived.Test.YtnflbplhokodjaaDoorFHead
namespace Go.Proofs.YtnflbplhokodjaaDoor
set_option linter.unusedVariables false
set_option linter.unusedSimpArgs false

/-- The messages, each with the byte behind which it came; the first byte is byte p. -/
def feedE : St → Nat → List Nat → List (Msg × Nat)
  | _, _, [] => []
  | s, p, c :: b => (stepF s c).2.map (fun m => (m, p + 1)) ++ feedE (stepF s c).1 (p + 1) b
theorem feedE_msgs (s : St) (p : Nat) (b : List Nat) : (feedE s p b).map (·.1) = (feedL s b).2 := by
  induction b generalizing s p with
  | nil => rfl
  | cons c b ih =>
    have e : ((stepF s c).2.map fun m => (m, p + 1)).map (fun x : Msg × Nat => x.1) = (stepF s c).2 := by
      rw [List.map_map]
      exact List.map_id _
    simp only [feedE, feedL, List.map_append, ih, e]
theorem feedE_app (s : St) (p : Nat) (a b : List Nat) : feedE s p (a ++ b) = feedE s p a ++ feedE (feedL s a).1 (p + a.length) b := by
  induction a generalizing s p with
  | nil => simp [feedE, feedL]
  | cons c a ih =>
    simp only [List.cons_append, feedE, feedL, ih, List.append_assoc, List.length_cons]
    rw [show p + 1 + a.length = p + (a.length + 1) by omega]
theorem feedE_ends (s : St) (p : Nat) (b : List Nat) : ∀ x ∈ feedE s p b, p < x.2 ∧ x.2 ≤ p + b.length := by
  induction b generalizing s p with
  | nil => intro x hx; cases hx
  | cons c b ih =>
    intro x hx
    rcases List.mem_append.1 (show x ∈ (stepF s c).2.map (fun m => (m, p + 1)) ++ feedE (stepF s c).1 (p + 1) b from hx) with q | q
    · obtain ⟨m, _, rfl⟩ := List.mem_map.1 q
      simp
    · have := ih _ _ x q
      simp
      omega
theorem feedE_nothing (p : Nat) (b : List Nat) : feedE .nothing p b = [] := by
  induction b generalizing p with
  | nil => rfl
  | cons c b ih => simp [feedE, stepF, ih]

/-- What becomes of a header over bytes: still open; whole, by so many bytes, with that length; broken, by so many bytes. -/
inductive HR where
  | opn (h : Hd)
  | whole (k n : Nat)
  | broken (k : Nat)
def HR.later : HR → HR
  | .opn h => .opn h
  | .whole k n => .whole (k + 1) n
  | .broken k => .broken (k + 1)
def runH : Hd → List Nat → HR
  | h, [] => .opn h
  | h, c :: l => match addL h c with
    | (.opn, h') => (runH h' l).later
    | (.whole, h') => .whole 1 h'.length
    | (.none, _) => .broken 1
theorem feedE_cons (s : St) (p c : Nat) (b : List Nat) : feedE s p (c :: b) = (stepF s c).2.map (fun m => (m, p + 1)) ++ feedE (stepF s c).1 (p + 1) b := rfl
theorem runH_cons (h : Hd) (c : Nat) (l : List Nat) : runH h (c :: l) = match addL h c with
    | (.opn, h') => (runH h' l).later
    | (.whole, h') => .whole 1 h'.length
    | (.none, _) => .broken 1 := rfl
theorem run_feed (h : Hd) (p : Nat) (l : List Nat) : feedE (.head h) p l = match runH h l with
    | .opn _ => []
    | .whole k n => (beginL n).2.map (fun m => (m, p + k)) ++ feedE (beginL n).1 (p + k) (l.drop k)
    | .broken k => [((3, []), p + k)] := by
  induction l generalizing h p with
  | nil => rfl
  | cons c l ih =>
    have e : stepF (.head h) c = match addL h c with
      | (.opn, h') => (.head h', [])
      | (.whole, h') => beginL h'.length
      | (.none, _) => (.nothing, [(3, [])]) := rfl
    rw [feedE_cons, runH_cons, e]
    rcases addL h c with ⟨q, h'⟩
    cases q with
    | opn =>
      simp only [List.map_nil, List.nil_append]
      rw [ih h' (p + 1)]
      cases runH h' l with
      | opn _ => rfl
      | whole k n =>
        simp only [HR.later, List.drop_succ_cons]
        rw [show p + 1 + k = p + (k + 1) by omega]
      | broken k =>
        simp only [HR.later]
        rw [show p + 1 + k = p + (k + 1) by omega]
    | whole => simp
    | none => simp [feedE_nothing]
theorem feedE_body (n p : Nat) (got l : List Nat) (h0 : 0 < n) : feedE (.body n got) p l = if l.length < n then [] else ((1, got ++ l.take n), p + n) :: feedE (.head hd0) (p + n) (l.drop n) := by
  by_cases h : l.length < n
  · rw [if_pos h]
    have := feedE_msgs (.body n got) p l
    rw [feed_part n got l h] at this
    exact List.map_eq_nil_iff.1 this
  · rw [if_neg h]
    have hl : (l.take n).length = n := by simp; omega
    have e := feedE_app (.body n got) p (l.take n) (l.drop n)
    rw [List.take_append_drop, feed_last n got (l.take n) hl h0, hl] at e
    rw [e]
    have m := feedE_msgs (.body n got) p (l.take n)
    rw [feed_last n got (l.take n) hl h0] at m
    obtain ⟨a, c, hac⟩ : ∃ a c, l.take n = a ++ [c] := by
      refine ⟨(l.take n).dropLast, (l.take n).getLast (by intro q; rw [q] at hl; simp at hl; omega), (List.dropLast_concat_getLast _).symm⟩
    have hal : a.length + 1 = n := by rw [← hl, hac]; simp
    have hfst : feedE (.body n got) p (l.take n) = [((1, got ++ l.take n), p + n)] := by
      rw [hac, feedE_app]
      have z : feedE (.body n got) p a = [] := by
        have := feedE_msgs (.body n got) p a
        rw [feed_part n got a (by omega)] at this
        exact List.map_eq_nil_iff.1 this
      rw [z, feed_part n got a (by omega)]
      have hs : stepF (.body (n - a.length) (got ++ a)) c = (.head hd0, [(1, got ++ a ++ [c])]) := if_pos (by omega)
      simp only [feedE, hs]
      simp
      omega
    rw [hfst]
    rfl
theorem feedE_skip (n p : Nat) (l : List Nat) (h0 : 0 < n) : feedE (.skip n) p l = if l.length < n then [] else feedE (.head hd0) (p + n) (l.drop n) := by
  by_cases h : l.length < n
  · rw [if_pos h]
    have := feedE_msgs (.skip n) p l
    rw [feed_over n l h] at this
    exact List.map_eq_nil_iff.1 this
  · rw [if_neg h]
    have hl : (l.take n).length = n := by simp; omega
    have e := feedE_app (.skip n) p (l.take n) (l.drop n)
    rw [List.take_append_drop, feed_overlast n (l.take n) hl h0, hl] at e
    rw [e]
    have m := feedE_msgs (.skip n) p (l.take n)
    rw [feed_overlast n (l.take n) hl h0] at m
    rw [List.map_eq_nil_iff.1 m]
    rfl

end Go.Proofs.YtnflbplhokodjaaDoor
