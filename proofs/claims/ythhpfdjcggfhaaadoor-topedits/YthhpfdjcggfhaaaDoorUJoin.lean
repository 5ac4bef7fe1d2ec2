/- Two texts, one behind the other: letters, units, lines. -/
import Derived.Test.YthhpfdjcggfhaaaDoorULines
namespace Go.Proofs.YthhpfdjcggfhaaaDoor
set_option linter.unusedVariables false
set_option linter.unusedSimpArgs false
open Go Go.RowKit Go.Shelf Go.Lib

theorem decN_stable {n n' b0 b1 b2 b3 d0 d1 d2 d3 : Nat} {r : Nat × Nat} (hr : decodeN n b0 b1 b2 b3 = r) (hv : ¬ (r.1 = 65533 ∧ r.2 = 1)) (h0 : d0 = b0) (h1 : 1 < r.2 → d1 = b1) (h2 : 2 < r.2 → d2 = b2) (h3 : 3 < r.2 → d3 = b3) (hn : r.2 ≤ n') : decodeN n' d0 d1 d2 d3 = r := by
  subst h0
  unfold decodeN at hr
  repeat' split at hr
  all_goals (subst hr; dsimp only at hv h1 h2 h3 hn)
  all_goals first
    | (exfalso; exact hv ⟨rfl, rfl⟩)
    | skip
  · unfold decodeN
    rw [if_pos (by assumption)]
  · rename_i a1 a2 a3
    have e1 := h1 (by omega)
    subst e1
    unfold decodeN
    rw [if_neg a1, if_pos ⟨a2.1, by omega, a2.2.2⟩, if_pos a3]
  · rename_i a1 a2 a3 a4
    have e1 := h1 (by omega)
    have e2 := h2 (by omega)
    subst e1 e2
    unfold decodeN
    rw [if_neg a1, if_neg (by omega), if_pos ⟨a3.1, ⟨by omega, a3.2.1.2⟩, by omega, a3.2.2.2⟩, if_pos a4]
  · rename_i a1 a2 a3 a4 a5
    have e1 := h1 (by omega)
    have e2 := h2 (by omega)
    have e3 := h3 (by omega)
    subst e1 e2 e3
    unfold decodeN
    rw [if_neg a1, if_neg (by omega), if_neg (by omega), if_pos ⟨a4.1, ⟨by omega, a4.2.1.2⟩, ⟨by omega, a4.2.2.1.2⟩, by omega, a4.2.2.2.2⟩, if_pos a5]

theorem decL_at {T : List Nat} {p : Nat} (hp : p < T.length) : decL (T.drop p) = decodeN (T.length - p) (nth T (p + 0)) (nth T (p + 1)) (nth T (p + 2)) (nth T (p + 3)) := by
  unfold decL
  rw [if_neg (by rw [List.length_drop]; omega), List.length_drop, nth_drop, nth_drop, nth_drop, nth_drop]

theorem rune_stable {T T' : List Nat} {p p' : Nat} (hT : ∀ x ∈ T, x < 256) (hp : p < T.length) (hv : runeAt T p ≠ -1) (hsame : ∀ d, d < sizeAt T p → nth T' (p' + d) = nth T (p + d)) (hl : p' + sizeAt T p ≤ T'.length) : runeAt T' p' = runeAt T p ∧ sizeAt T' p' = sizeAt T p := by
  have hs := (size_bounds hT hp).1
  have hd := decL_at hp
  have hd' := decL_at (T := T') (p := p') (by omega)
  have hnv : ¬ ((decL (T.drop p)).1 = 65533 ∧ (decL (T.drop p)).2 = 1) := fun g => hv (by unfold runeAt; rw [if_pos g])
  have hss : sizeAt T p = (decL (T.drop p)).2 := rfl
  have key := decN_stable (n' := T'.length - p') (d0 := nth T' (p' + 0)) (d1 := nth T' (p' + 1)) (d2 := nth T' (p' + 2)) (d3 := nth T' (p' + 3)) hd.symm hnv (hsame 0 (by omega)) (fun g => hsame 1 (by omega)) (fun g => hsame 2 (by omega)) (fun g => hsame 3 (by omega)) (by omega)
  rw [← hd'] at key
  unfold runeAt sizeAt
  rw [key]
  exact ⟨rfl, rfl⟩

/-- All letters of a text are such. -/
def AllLet (T : List Nat) (N : Nat) : Prop := ∀ k, k < N → runeAt T (posL T k) ≠ -1

theorem nth_app_left {A B : List Nat} {j : Nat} (h : j < A.length) : nth (A ++ B) j = nth A j := by
  unfold nth
  rw [List.getElem?_append_left h]
theorem nth_app_right {A B : List Nat} (j : Nat) : nth (A ++ B) (A.length + j) = nth B j := by
  unfold nth
  rw [List.getElem?_append_right (by omega), Nat.add_sub_cancel_left]

theorem join_left {A B : List Nat} (hA : ∀ x ∈ A, x < 256) {N : Nat} (h1 : ∀ k, k < N → posL A k < A.length) (hv : AllLet A N) (k : Nat) (hk : k ≤ N) : posL (A ++ B) k = posL A k ∧ unitsL (A ++ B) k = unitsL A k ∧ (∀ j, j < k → runeAt (A ++ B) (posL (A ++ B) j) ≠ -1) := by
  induction k with
  | zero => exact ⟨rfl, rfl, fun j hj => by omega⟩
  | succ k ih =>
    obtain ⟨e1, e2, e3⟩ := ih (by omega)
    have hp := h1 k (by omega)
    have hb := size_bounds hA hp
    have hst := rune_stable (T' := A ++ B) (p' := posL A k) hA hp (hv k (by omega)) (fun d hd => nth_app_left (by omega)) (by rw [List.length_append]; omega)
    refine ⟨?_, ?_, fun j hj => ?_⟩
    · show posL (A ++ B) k + sizeAt (A ++ B) (posL (A ++ B) k) = posL A k + sizeAt A (posL A k)
      rw [e1, hst.2]
    · show unitsL (A ++ B) k + unitOf (runeAt (A ++ B) (posL (A ++ B) k)) = unitsL A k + unitOf (runeAt A (posL A k))
      rw [e1, e2, hst.1]
    · rcases Nat.lt_succ_iff_lt_or_eq.1 hj with g | g
      · exact e3 j g
      · rw [g, e1, hst.1]; exact hv k (by omega)

theorem drop_right (A B : List Nat) (p : Nat) : (A ++ B).drop (A.length + p) = B.drop p := by
  rw [List.drop_append, List.drop_of_length_le (by omega), Nat.add_sub_cancel_left, List.nil_append]

theorem join_right {A B : List Nat} (hA : ∀ x ∈ A, x < 256) {N : Nat} (h1 : ∀ k, k < N → posL A k < A.length) (h2 : posL A N = A.length) (hv : AllLet A N) (k : Nat) : posL (A ++ B) (N + k) = A.length + posL B k ∧ unitsL (A ++ B) (N + k) = unitsL A N + unitsL B k := by
  obtain ⟨e1, e2, _⟩ := join_left (B := B) hA h1 hv N (Nat.le_refl _)
  induction k with
  | zero => exact ⟨by rw [Nat.add_zero, e1, h2]; rfl, by rw [Nat.add_zero, e2]; rfl⟩
  | succ k ih =>
    obtain ⟨g1, g2⟩ := ih
    have hs : sizeAt (A ++ B) (A.length + posL B k) = sizeAt B (posL B k) := by unfold sizeAt; rw [drop_right]
    have hr : runeAt (A ++ B) (A.length + posL B k) = runeAt B (posL B k) := by unfold runeAt; rw [drop_right]
    constructor
    · show posL (A ++ B) (N + k) + sizeAt (A ++ B) (posL (A ++ B) (N + k)) = A.length + (posL B k + sizeAt B (posL B k))
      rw [g1, hs]; omega
    · show unitsL (A ++ B) (N + k) + unitOf (runeAt (A ++ B) (posL (A ++ B) (N + k))) = unitsL A N + (unitsL B k + unitOf (runeAt B (posL B k)))
      rw [g1, g2, hr]; omega

theorem join_count {A B : List Nat} (hA : ∀ x ∈ A, x < 256) {N M : Nat} (h1 : ∀ k, k < N → posL A k < A.length) (h2 : posL A N = A.length) (hv : AllLet A N) (g1 : ∀ k, k < M → posL B k < B.length) (g2 : posL B M = B.length) (gv : AllLet B M) :
    (∀ k, k < N + M → posL (A ++ B) k < (A ++ B).length) ∧ posL (A ++ B) (N + M) = (A ++ B).length ∧ AllLet (A ++ B) (N + M) ∧ unitsL (A ++ B) (N + M) = unitsL A N + unitsL B M := by
  have hl : (A ++ B).length = A.length + B.length := List.length_append
  refine ⟨fun k hk => ?_, ?_, fun k hk => ?_, (join_right hA h1 h2 hv M).2⟩
  · by_cases hkn : k < N
    · rw [(join_left hA h1 hv k (by omega)).1, hl]
      have := h1 k hkn
      omega
    · obtain ⟨j, rfl⟩ : ∃ j, k = N + j := ⟨k - N, by omega⟩
      rw [(join_right hA h1 h2 hv j).1, hl]
      have := g1 j (by omega)
      omega
  · rw [(join_right hA h1 h2 hv M).1, hl, g2]
  · by_cases hkn : k < N
    · exact (join_left hA h1 hv N (Nat.le_refl _)).2.2 k hkn
    · obtain ⟨j, rfl⟩ : ∃ j, k = N + j := ⟨k - N, by omega⟩
      rw [(join_right hA h1 h2 hv j).1]
      have : runeAt (A ++ B) (A.length + posL B j) = runeAt B (posL B j) := by unfold runeAt; rw [drop_right]
      rw [this]
      exact gv j (by omega)

/-- Is a line's end cut where the two meet? -/
def cutEnd (A B : List Nat) : Prop := 0 < A.length ∧ 0 < B.length ∧ nth A (A.length - 1) = 13 ∧ nth B 0 = 10

theorem lines_len (T : List Nat) (k : Nat) : (linesTo T (k + 1)).length = (linesTo T k).length + (if brk T k then 1 else 0) := by
  show (if brk T k then _ else _ : List Int).length = _
  split <;> simp

theorem brk_right (A B : List Nat) (j : Nat) : brk (A ++ B) (A.length + j) = brk B j := by
  unfold brk
  rw [nth_app_right, show A.length + j + 1 = A.length + (j + 1) by omega, nth_app_right, List.length_append]
  have : (A.length + (j + 1) < A.length + B.length) = (j + 1 < B.length) := propext ⟨fun h => by omega, fun h => by omega⟩
  simp only [this]
theorem brk_left {A B : List Nat} {i : Nat} (h : i + 1 < A.length) : brk (A ++ B) i = brk A i := by
  unfold brk
  rw [nth_app_left (by omega), nth_app_left h, List.length_append]
  have : (i + 1 < A.length + B.length) = (i + 1 < A.length) := propext ⟨fun _ => h, fun _ => by omega⟩
  simp only [this]
theorem lines_right (A B : List Nat) (j : Nat) : (linesTo (A ++ B) (A.length + j)).length + 1 = (linesTo (A ++ B) A.length).length + (linesTo B j).length := by
  induction j with
  | zero => rfl
  | succ j ih =>
    rw [← Nat.add_assoc, lines_len, lines_len, brk_right]
    omega
theorem lines_left {A B : List Nat} (k : Nat) (hk : k + 1 ≤ A.length) : (linesTo (A ++ B) k).length = (linesTo A k).length := by
  induction k with
  | zero => rfl
  | succ k ih =>
    rw [lines_len, lines_len, ih (by omega), brk_left (by omega)]
theorem brk_last {A B : List Nat} {m : Nat} (hm : A.length = m + 1) : (cutEnd A B → brk (A ++ B) m = false ∧ brk A m = true) ∧ (¬ cutEnd A B → brk (A ++ B) m = brk A m) := by
  have hb : nth (A ++ B) (m + 1) = nth B 0 := by rw [show m + 1 = A.length + 0 by omega, nth_app_right]
  have ha : nth (A ++ B) m = nth A m := nth_app_left (by omega)
  have e1 : (m + 1 < (A ++ B).length) = (0 < B.length) := propext ⟨fun h => by rw [List.length_append] at h; omega, fun h => by rw [List.length_append]; omega⟩
  have e2 : (m + 1 < A.length) = False := propext ⟨fun h => by omega, fun h => h.elim⟩
  constructor
  · rintro ⟨_, h2, h3, h4⟩
    rw [hm, Nat.add_sub_cancel] at h3
    unfold brk
    rw [ha, hb, h3, h4]
    simp only [e1, e2]
    simp [h2]
  · intro hn
    unfold brk
    rw [ha, hb]
    simp only [e1, e2]
    by_cases h3 : nth A m = 13
    · have h3' : ¬ (0 < B.length ∧ nth B 0 = 10) := fun g => hn ⟨by omega, g.1, by rw [hm, Nat.add_sub_cancel]; exact h3, g.2⟩
      by_cases g1 : 0 < B.length
      · have : nth B 0 ≠ 10 := fun g2 => h3' ⟨g1, g2⟩
        simp [h3, g1, this]
      · simp [h3, g1]
    · simp [h3]
theorem join_lines (A B : List Nat) : (cutEnd A B → (linesL (A ++ B)).length + 2 = (linesL A).length + (linesL B).length) ∧ (¬ cutEnd A B → (linesL (A ++ B)).length + 1 = (linesL A).length + (linesL B).length) := by
  unfold linesL
  rw [List.length_append]
  have hr := lines_right A B B.length
  cases hm : A.length with
  | zero =>
    have hA : A = [] := List.length_eq_zero_iff.1 hm
    subst hA
    refine ⟨fun g => by have := g.1; simp at this, fun _ => ?_⟩
    simp only [List.nil_append, Nat.zero_add]
    show _ = (linesTo [] 0).length + _
    show _ = 1 + _
    omega
  | succ m =>
    rw [hm] at hr
    have hl := lines_left (B := B) m (show m + 1 ≤ A.length by omega)
    obtain ⟨c1, c2⟩ := brk_last (B := B) hm
    rw [lines_len, hl] at hr
    constructor
    · intro g
      obtain ⟨b1, b2⟩ := c1 g
      rw [b1] at hr
      rw [lines_len A m, b2]
      simp at hr ⊢
      omega
    · intro g
      rw [c2 g] at hr
      rw [lines_len A m]
      omega

end Go.Proofs.YthhpfdjcggfhaaaDoor
