/- Tokens stand one behind the other, and what is between them is marked. -/
import Derived.Test.YtehflaenehehhaaLRTokens
namespace Go.Proofs.Ytehflaenehehhaa
set_option linter.unusedVariables false
set_option linter.unusedSimpArgs false
set_option maxRecDepth 100000
open Go Go.RowKit Go.Shelf Go.Lib

/-- Tokens from a place on, up to another: what is between is marked. -/
def Chain (T : List Nat) : Nat → List Tok → Nat → Prop
  | a, [], e => e = a
  | a, t :: l, e => a ≤ t.2.1 ∧ t.2.1 < t.2.2 ∧ t.2.2 ≤ T.length ∧ (∀ i, a ≤ i → i < t.2.1 → markB T i = true) ∧ Chain T t.2.2 l e
/-- The same up to the text's end, the last token being the end. -/
def Cover (T : List Nat) : Nat → List Tok → Prop
  | a, [] => a = T.length
  | a, t :: l => a ≤ t.2.1 ∧ t.2.1 ≤ t.2.2 ∧ t.2.2 ≤ T.length ∧ (t.2.1 = t.2.2 ↔ l = []) ∧ (∀ i, a ≤ i → i < t.2.1 → markB T i = true) ∧ Cover T t.2.2 l

theorem chain_snoc {T : List Nat} {t : Tok} : ∀ {L : List Tok} {a e : Nat}, Chain T a L e → e ≤ t.2.1 → t.2.1 < t.2.2 → t.2.2 ≤ T.length → (∀ i, e ≤ i → i < t.2.1 → markB T i = true) → Chain T a (L ++ [t]) t.2.2 := by
  intro L
  induction L with
  | nil =>
    intro a e h h1 h2 h3 h4
    have e' : e = a := h
    subst e'
    exact ⟨h1, h2, h3, h4, rfl⟩
  | cons x l ih =>
    intro a e h h1 h2 h3 h4
    obtain ⟨g1, g2, g3, g4, g5⟩ := h
    exact ⟨g1, g2, g3, g4, ih g5 h1 h2 h3 h4⟩

theorem cover_of {T : List Nat} : ∀ {L : List Tok} {a e : Nat}, Chain T a L e → e ≤ T.length → (∀ i, e ≤ i → i < T.length → markB T i = true) → Cover T a (L ++ [(0, T.length, T.length)]) := by
  intro L
  induction L with
  | nil =>
    intro a e h h1 h2
    have e' : e = a := h
    subst e'
    exact ⟨h1, Nat.le_refl _, Nat.le_refl _, ⟨fun _ => rfl, fun _ => rfl⟩, h2, rfl⟩
  | cons x l ih =>
    intro a e h h1 h2
    obtain ⟨g1, g2, g3, g4, g5⟩ := h
    refine ⟨g1, by omega, g3, ⟨fun e => by omega, fun e => by simp at e⟩, g4, ih g5 h1 h2⟩

theorem no_wrong {T : List Nat} {k : Nat} (h : faultAt T k = 0) : kindAt T (posP T k) ≠ -3 := by
  intro e
  unfold faultAt faultL at h
  rw [if_pos e] at h
  cases h

theorem kinds {T : List Nat} (hs : ∀ x ∈ T, x < 256) {p : Nat} (hp : p < T.length) (h : kindAt T p ≠ -3) : (kindAt T p = -1 ∨ kindAt T p = -2) ∨ 0 < kindAt T p := by
  rcases piece_parts hs hp with ⟨h1, _⟩ | ⟨h1, _⟩ | ⟨h1, _⟩
  · exact .inl (.inl h1)
  · exact .inl (.inr h1)
  · rcases h1 with h1 | h1
    · exact absurd h1 h
    · exact .inr h1

theorem toks_chain {T : List Nat} (hs : ∀ x ∈ T, x < 256) {N : Nat} (h1 : ∀ k, k < N → posP T k < T.length) (hf : ∀ k, k < N → faultAt T k = 0) : ∀ k, k ≤ N → ∃ e, Chain T 0 (toksL T k) e ∧ e ≤ posP T k ∧ ∀ i, e ≤ i → i < posP T k → markB T i = true := by
  intro k
  induction k with
  | zero => intro _; exact ⟨0, rfl, Nat.le_refl _, fun i h1 h2 => by simp [posP] at h2⟩
  | succ k ih =>
    intro hk
    obtain ⟨e, c1, c2, c3⟩ := ih (by omega)
    have hp := h1 k (by omega)
    obtain ⟨z1, z2⟩ := size_bounds hp
    have ep : posP T (k + 1) = posP T k + sizeAt T (posP T k) := rfl
    rcases kinds hs hp (no_wrong (hf k (by omega))) with g | g
    · rw [toksL_no (by omega)]
      refine ⟨e, c1, by omega, fun i i1 i2 => ?_⟩
      by_cases gi : i < posP T k
      · exact c3 i i1 gi
      · rw [marks_at hs h1 (show k < N by omega) (by omega) i2]
        exact decide_eq_true g
    · rw [toksL_yes g]
      exact ⟨posP T (k + 1), chain_snoc (t := (kindAt T (posP T k), posP T k, posP T (k + 1))) c1 c2 (by show posP T k < posP T (k + 1); omega) (by show posP T (k + 1) ≤ _; omega) c3, Nat.le_refl _, fun i i1 i2 => by omega⟩

theorem toks_cover {T : List Nat} (hs : ∀ x ∈ T, x < 256) {N : Nat} (h1 : ∀ k, k < N → posP T k < T.length) (h2 : posP T N = T.length) (hf : ∀ k, k < N → faultAt T k = 0) : Cover T 0 (toksL T N ++ [(0, T.length, T.length)]) := by
  obtain ⟨e, c1, c2, c3⟩ := toks_chain hs h1 hf N (Nat.le_refl _)
  rw [h2] at c2 c3
  exact cover_of c1 c2 c3

theorem cover_at {T : List Nat} {a j : Nat} {L : List Tok} {t : Tok} (h : Cover T a (L.drop j)) (ht : L[j]? = some t) : a ≤ t.2.1 ∧ t.2.1 ≤ t.2.2 ∧ t.2.2 ≤ T.length ∧ (t.2.1 = t.2.2 ↔ j + 1 = L.length) ∧ (∀ i, a ≤ i → i < t.2.1 → markB T i = true) ∧ Cover T t.2.2 (L.drop (j + 1)) := by
  have hj : j < L.length := (List.getElem?_eq_some_iff.1 ht).1
  have e : L.drop j = t :: L.drop (j + 1) := by
    rw [List.drop_eq_getElem_cons hj]
    have := (List.getElem?_eq_some_iff.1 ht).2
    rw [this]
  rw [e] at h
  obtain ⟨g1, g2, g3, g4, g5, g6⟩ := h
  refine ⟨g1, g2, g3, ?_, g5, g6⟩
  rw [g4, List.drop_eq_nil_iff]
  omega

end Go.Proofs.Ytehflaenehehhaa
