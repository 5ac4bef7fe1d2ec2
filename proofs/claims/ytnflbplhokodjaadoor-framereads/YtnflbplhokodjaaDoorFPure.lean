/- Frame: a reader as a machine that takes a byte at a time: what is to be said of lists alone. -/
import Derived.Test.YtnflbplhokodjaaDoorUMem
namespace Go.Proofs.YtnflbplhokodjaaDoor
set_option linter.unusedVariables false
set_option linter.unusedSimpArgs false

/-- A header, as far as it has come. -/
structure Hd where
  size : Nat
  line : List Nat
  told : Bool
  length : Nat
def hd0 : Hd := ⟨0, [], false, 0⟩
inductive HS where
  | opn
  | whole
  | none

def lowL (c : Nat) : Nat := if 65 ≤ c ∧ c ≤ 90 then c + 32 else c
/-- 'content-length' -/
def lenName : List Nat := [99, 111, 110, 116, 101, 110, 116, 45, 108, 101, 110, 103, 116, 104]
def isLenL (name : List Nat) : Bool := name.map lowL == lenName
def blankF (c : Nat) : Bool := c == 32 || c == 9
def trimF (l : List Nat) : List Nat := ((l.dropWhile blankF).reverse.dropWhile blankF).reverse
/-- The number that digits are, behind n. -/
def numF : Nat → List Nat → Option Nat
  | n, [] => some n
  | n, c :: l => if 48 ≤ c ∧ c ≤ 57 then numF (10 * n + (c - 48)) l else none
def lengthL (v : List Nat) : Option Nat := if (trimF v).length = 0 ∨ 10 < (trimF v).length then none else numF 0 (trimF v)
/-- A line's end; h has no line any more. -/
def endLineL (h : Hd) (line : List Nat) : HS × Hd :=
  if line.length = 0 then (if h.told then .whole else .none, h)
  else
    let name := line.takeWhile (· ≠ 58)
    if name.length = line.length ∨ name.length = 0 then (.none, h)
    else if isLenL name = false then (.opn, h)
    else match lengthL (line.drop (name.length + 1)) with
      | none => (.none, h)
      | some n => if h.told then (.none, h) else (.opn, { h with told := true, length := n })
def addL (h : Hd) (c : Nat) : HS × Hd :=
  if 4096 < h.size + 1 then (.none, { h with size := h.size + 1 })
  else if c ≠ 10 then (.opn, { h with size := h.size + 1, line := h.line ++ [c] })
  else if h.line.getLast? = some 13 then endLineL { h with size := h.size + 1, line := [] } h.line.dropLast
  else (.none, { h with size := h.size + 1, line := [] })

/-- A reader. -/
inductive St where
  | head (h : Hd)
  | body (left : Nat) (got : List Nat)
  | skip (left : Nat)
  | nothing
def St.over : St → Bool
  | .nothing => true
  | _ => false
/-- A message: its kind, its body. -/
abbrev Msg := Nat × List Nat
def beginL (n : Nat) : St × List Msg :=
  if n = 0 then (.head hd0, [(1, [])]) else if 16777216 < n then (.skip n, [(2, [])]) else (.body n [], [])
def stepF : St → Nat → St × List Msg
  | .head h, c => match addL h c with
    | (.opn, h') => (.head h', [])
    | (.whole, h') => beginL h'.length
    | (.none, _) => (.nothing, [(3, [])])
  | .body l got, c => if l ≤ 1 then (.head hd0, [(1, got ++ [c])]) else (.body (l - 1) (got ++ [c]), [])
  | .skip l, _ => if l ≤ 1 then (.head hd0, []) else (.skip (l - 1), [])
  | .nothing, _ => (.nothing, [])
def feedL : St → List Nat → St × List Msg
  | s, [] => (s, [])
  | s, c :: b => ((feedL (stepF s c).1 b).1, (stepF s c).2 ++ (feedL (stepF s c).1 b).2)

theorem feed_app (s : St) (a b : List Nat) : feedL s (a ++ b) = ((feedL (feedL s a).1 b).1, (feedL s a).2 ++ (feedL (feedL s a).1 b).2) := by
  induction a generalizing s with
  | nil => simp [feedL]
  | cons c a ih => simp [feedL, ih]
theorem feed_one (s : St) (c : Nat) : feedL s [c] = stepF s c := by simp [feedL]
theorem feed_nothing (b : List Nat) : feedL .nothing b = (.nothing, []) := by
  induction b with
  | nil => rfl
  | cons c b ih => simp [feedL, stepF, ih]
/-- A part of a body. -/
theorem feed_part (l : Nat) (got b : List Nat) (h : b.length < l) : feedL (.body l got) b = (.body (l - b.length) (got ++ b), []) := by
  induction b generalizing l got with
  | nil => simp [feedL]
  | cons c b ih =>
    have h' : b.length + 1 < l := h
    have hs : stepF (.body l got) c = (.body (l - 1) (got ++ [c]), []) := by
      exact if_neg (by omega)
    simp only [feedL, hs]
    rw [ih (l - 1) (got ++ [c]) (by omega)]
    simp
    omega
/-- A body's last part. -/
theorem feed_last (l : Nat) (got b : List Nat) (h : b.length = l) (h0 : 0 < l) : feedL (.body l got) b = (.head hd0, [(1, got ++ b)]) := by
  obtain ⟨a, c, rfl⟩ : ∃ a c, b = a ++ [c] := by
    refine ⟨b.dropLast, b.getLast (by intro e; subst e; simp at h; omega), (List.dropLast_concat_getLast _).symm⟩
  rw [List.length_append] at h
  have h' : a.length + 1 = l := h
  rw [feed_app, feed_part l got a (by omega), feed_one]
  have hs : stepF (.body (l - a.length) (got ++ a)) c = (.head hd0, [(1, got ++ a ++ [c])]) := by
    exact if_pos (by omega)
  simp [hs]
theorem feed_over (l : Nat) (b : List Nat) (h : b.length < l) : feedL (.skip l) b = (.skip (l - b.length), []) := by
  induction b generalizing l with
  | nil => simp [feedL]
  | cons c b ih =>
    have h' : b.length + 1 < l := h
    have hs : stepF (.skip l) c = (.skip (l - 1), []) := by
      exact if_neg (by omega)
    simp only [feedL, hs]
    rw [ih (l - 1) (by omega)]
    simp
    omega
theorem feed_overlast (l : Nat) (b : List Nat) (h : b.length = l) (h0 : 0 < l) : feedL (.skip l) b = (.head hd0, []) := by
  obtain ⟨a, c, rfl⟩ : ∃ a c, b = a ++ [c] := by
    refine ⟨b.dropLast, b.getLast (by intro e; subst e; simp at h; omega), (List.dropLast_concat_getLast _).symm⟩
  rw [List.length_append] at h
  have h' : a.length + 1 = l := h
  rw [feed_app, feed_over l a (by omega), feed_one]
  have hs : stepF (.skip (l - a.length)) c = (.head hd0, []) := by
    exact if_pos (by omega)
  simp [hs]

/-- Behind a broken header nothing is read; ahead of it no message is broken. -/
theorem step_broken (s : St) (c : Nat) (hs : s.over = false) : ((stepF s c).1.over = true ∧ (stepF s c).2 = [(3, [])]) ∨ ((stepF s c).1.over = false ∧ ∀ m ∈ (stepF s c).2, m.1 ≠ 3) := by
  cases s with
  | nothing => cases hs
  | skip l =>
    by_cases q : l ≤ 1
    · rw [show stepF (.skip l) c = (.head hd0, []) from if_pos q]
      exact .inr ⟨rfl, fun m hm => by cases hm⟩
    · rw [show stepF (.skip l) c = (.skip (l - 1), []) from if_neg q]
      exact .inr ⟨rfl, fun m hm => by cases hm⟩
  | body l got =>
    by_cases q : l ≤ 1
    · rw [show stepF (.body l got) c = (.head hd0, [(1, got ++ [c])]) from if_pos q]
      exact .inr ⟨rfl, fun m hm => by simp at hm; rw [hm]; simp⟩
    · rw [show stepF (.body l got) c = (.body (l - 1) (got ++ [c]), []) from if_neg q]
      exact .inr ⟨rfl, fun m hm => by cases hm⟩
  | head h =>
    show (_ ∧ _) ∨ _
    have e : stepF (.head h) c = match addL h c with
      | (.opn, h') => (.head h', [])
      | (.whole, h') => beginL h'.length
      | (.none, _) => (.nothing, [(3, [])]) := rfl
    rw [e]
    rcases hq : addL h c with ⟨q, h'⟩
    cases q with
    | opn => exact .inr ⟨rfl, fun m hm => by cases hm⟩
    | none => exact .inl ⟨rfl, rfl⟩
    | whole =>
      refine .inr ?_
      show (beginL h'.length).1.over = false ∧ ∀ m ∈ (beginL h'.length).2, m.1 ≠ 3
      unfold beginL
      split
      · exact ⟨rfl, fun m hm => by simp at hm; rw [hm]; decide⟩
      · split
        · exact ⟨rfl, fun m hm => by simp at hm; rw [hm]; decide⟩
        · exact ⟨rfl, fun m hm => by cases hm⟩
theorem feed_broken (s : St) (b : List Nat) (hs : s.over = false) : ((feedL s b).1 = .nothing ∧ ∃ l, (feedL s b).2 = l ++ [(3, [])] ∧ ∀ m ∈ l, m.1 ≠ 3) ∨ ((feedL s b).1.over = false ∧ ∀ m ∈ (feedL s b).2, m.1 ≠ 3) := by
  induction b generalizing s with
  | nil => exact .inr ⟨hs, fun m hm => by cases hm⟩
  | cons c b ih =>
    rcases step_broken s c hs with ⟨h1, h2⟩ | ⟨h1, h2⟩
    · have e : (stepF s c).1 = .nothing := by
        revert h1
        cases (stepF s c).1 <;> simp [St.over]
      refine .inl ⟨?_, [], ?_, fun m hm => by cases hm⟩
      · simp only [feedL, e, feed_nothing]
      · simp only [feedL, e, feed_nothing, h2]
        rfl
    · rcases ih (stepF s c).1 h1 with ⟨g1, l, g2, g3⟩ | ⟨g1, g2⟩
      · refine .inl ⟨g1, (stepF s c).2 ++ l, by simp only [feedL, g2, List.append_assoc], fun m hm => ?_⟩
        rcases List.mem_append.1 hm with q | q
        · exact h2 m q
        · exact g3 m q
      · refine .inr ⟨g1, fun m hm => ?_⟩
        rcases List.mem_append.1 (show m ∈ (stepF s c).2 ++ (feedL (stepF s c).1 b).2 from hm) with q | q
        · exact h2 m q
        · exact g2 m q

end Go.Proofs.YtnflbplhokodjaaDoor
