/- The reference's Items: byte by byte, and by pieces. -/
import Derived.Test.YtehflaenehehhaaLSpans2
import Derived.Test.YtehflaenehehhaaLRTokens
namespace Go.Proofs.Ytehflaenehehhaa
set_option linter.unusedVariables false
set_option linter.unusedSimpArgs false
set_option maxRecDepth 100000
open Go Go.RowKit Go.Shelf Go.Lib

/-- Behind i bytes: where the item under way began; is there a byte of it that isn't marked; the items that ended. -/
def rF (T : List Nat) : Nat → Nat
  | 0 => 0
  | i + 1 => if markB T i = false ∧ nth T i = 59 then i + 1 else rF T i
def rB (T : List Nat) : Nat → Bool
  | 0 => false
  | i + 1 => if markB T i then rB T i else !decide (nth T i = 59)
def rL (T : List Nat) : Nat → List (Nat × Nat)
  | 0 => []
  | i + 1 => rL T i ++ if markB T i = false ∧ nth T i = 59 then [(rF T i, i + 1)] else []

theorem r_marked {T : List Nat} {i : Nat} (h : markB T i = true) : rF T (i + 1) = rF T i ∧ rB T (i + 1) = rB T i ∧ rL T (i + 1) = rL T i := by
  refine ⟨?_, ?_, ?_⟩
  · show (if _ then _ else _) = _; rw [if_neg (by rw [h]; simp)]
  · show (if _ then _ else _) = _; rw [if_pos h]
  · show rL T i ++ (if _ then _ else _) = _; rw [if_neg (by rw [h]; simp), List.append_nil]
theorem r_token {T : List Nat} {i : Nat} (h : markB T i = false) (hx : nth T i ≠ 59) : rF T (i + 1) = rF T i ∧ rB T (i + 1) = true ∧ rL T (i + 1) = rL T i := by
  refine ⟨?_, ?_, ?_⟩
  · show (if _ then _ else _) = _; rw [if_neg (by simp [hx])]
  · show (if _ then _ else _) = _; rw [if_neg (by rw [h]; simp)]; simp [hx]
  · show rL T i ++ (if _ then _ else _) = _; rw [if_neg (by simp [hx]), List.append_nil]
theorem r_cut {T : List Nat} {i : Nat} (h : markB T i = false) (hx : nth T i = 59) : rF T (i + 1) = i + 1 ∧ rB T (i + 1) = false ∧ rL T (i + 1) = rL T i ++ [(rF T i, i + 1)] := by
  refine ⟨?_, ?_, ?_⟩
  · show (if _ then _ else _) = _; rw [if_pos ⟨h, hx⟩]
  · show (if _ then _ else _) = _; rw [if_neg (by rw [h]; simp)]; simp [hx]
  · show rL T i ++ (if _ then _ else _) = _; rw [if_pos ⟨h, hx⟩]

theorem r_marks {T : List Nat} {p : Nat} : ∀ z, (∀ j, j < z → markB T (p + j) = true) → rF T (p + z) = rF T p ∧ rB T (p + z) = rB T p ∧ rL T (p + z) = rL T p := by
  intro z
  induction z with
  | zero => intro _; exact ⟨rfl, rfl, rfl⟩
  | succ z ih =>
    intro h
    obtain ⟨a, b, c⟩ := ih (fun j hj => h j (by omega))
    obtain ⟨a', b', c'⟩ := r_marked (h z (by omega))
    exact ⟨a'.trans a, b'.trans b, c'.trans c⟩
theorem r_tokens {T : List Nat} {p : Nat} : ∀ z, (∀ j, j < z + 1 → markB T (p + j) = false ∧ nth T (p + j) ≠ 59) → rF T (p + (z + 1)) = rF T p ∧ rB T (p + (z + 1)) = true ∧ rL T (p + (z + 1)) = rL T p := by
  intro z
  induction z with
  | zero => intro h; exact r_token (h 0 (by omega)).1 (h 0 (by omega)).2
  | succ z ih =>
    intro h
    obtain ⟨a, b, c⟩ := ih (fun j hj => h j (by omega))
    obtain ⟨a', b', c'⟩ := r_token (h (z + 1) (by omega)).1 (h (z + 1) (by omega)).2
    exact ⟨a'.trans a, b', c'.trans c⟩

theorem name_no59 {x : Nat} (h : nameB x = true) : x ≠ 59 := by rintro rfl; cases h

/-- Within a token's piece only a cut is a semicolon, and a cut has one byte. -/
theorem piece_semi {T : List Nat} (hs : ∀ x ∈ T, x < 256) {k : Nat} (hp : posP T k < T.length) (hk : ¬ (kindAt T (posP T k) = -1 ∨ kindAt T (posP T k) = -2)) :
    (cutB T k = true → sizeAt T (posP T k) = 1 ∧ nth T (posP T k) = 59) ∧ (cutB T k = false → ∀ j, j < sizeAt T (posP T k) → nth T (posP T k + j) ≠ 59) := by
  have byRun : ∀ q : Nat → Bool, (∀ x, q x = true → nameB x = true) → ∀ j, j < runL q (T.drop (posP T k)) → nth T (posP T k + j) ≠ 59 := fun q hq j hj => by
    have e := (runL_is q (T.drop (posP T k))).1 j hj
    rw [nth_drop] at e
    exact name_no59 (hq _ e)
  have hsd : ∀ x ∈ T.drop (posP T k), x < 256 := fun x hx => hs x (List.mem_of_mem_drop hx)
  rcases token_cases hk with ⟨g1, g2, g3⟩ | ⟨g1, g2, g3, g4⟩ | ⟨g1, g2, g3, g4, g5⟩ | ⟨g1, g2, g3, g4, g5⟩
  · have hc : cutB T k = false := by
      unfold cutB
      have : kindAt T (posP T k) ≠ 4 := by rw [g2]; split <;> decide
      simp [this]
    refine ⟨fun h => (by rw [hc] at h; cases h), fun _ => ?_⟩
    rw [g3]
    exact byRun nameB (fun _ h => h)
  · have hc : cutB T k = false := by unfold cutB; rw [g3]; rfl
    refine ⟨fun h => (by rw [hc] at h; cases h), fun _ => ?_⟩
    rw [g4]
    exact byRun digitB (fun x h => by unfold nameB; rw [h]; simp)
  · refine ⟨fun h => ?_, fun h j hj => ?_⟩
    · unfold cutB at h
      simp at h
      refine ⟨?_, h.2⟩
      rw [g5]
      unfold signL
      have : ¬ twoB (T.drop (posP T k)) = true := by
        intro e
        obtain ⟨_, h0, _⟩ := two_bytes hsd e
        rw [nth_drop, Nat.add_zero] at h0
        omega
      rw [if_neg this, nth_drop, Nat.add_zero, h.2]
      rfl
    · have hx : nth T (posP T k) ≠ 59 := by
        unfold cutB at h
        rw [g4] at h
        simpa using h
      rw [g5] at hj
      unfold signL at hj
      by_cases e : twoB (T.drop (posP T k)) = true
      · rw [if_pos e] at hj
        obtain ⟨_, _, h1⟩ := two_bytes hsd e
        rw [nth_drop] at h1
        rcases Nat.lt_succ_iff_lt_or_eq.1 hj with q | q
        · rw [show j = 0 by omega]; exact hx
        · rw [q]; omega
      · rw [if_neg e] at hj
        have : j = 0 := by split at hj <;> omega
        rw [this]
        exact hx
  · have hc : cutB T k = false := by unfold cutB; rw [g4]; rfl
    refine ⟨fun h => (by rw [hc] at h; cases h), fun _ j hj => ?_⟩
    rw [g5] at hj
    rw [show j = 0 by omega]
    intro e
    rw [Nat.add_zero] at e
    unfold signL at g3
    split at g3
    · cases g3
    · rw [nth_drop, Nat.add_zero, e] at g3
      cases g3

theorem r_pieces {T : List Nat} (hs : ∀ x ∈ T, x < 256) {N : Nat} (h1 : ∀ k, k < N → posP T k < T.length) : ∀ k, k ≤ N → rF T (posP T k) = itF T k ∧ rB T (posP T k) = itB T k ∧ rL T (posP T k) = itL T k := by
  intro k
  induction k with
  | zero => intro _; exact ⟨rfl, rfl, rfl⟩
  | succ k ih =>
    intro hk
    obtain ⟨a, b, c⟩ := ih (by omega)
    have hp := h1 k (by omega)
    have ep : posP T (k + 1) = posP T k + sizeAt T (posP T k) := rfl
    obtain ⟨z1, z2⟩ := size_bounds hp
    have hmk : ∀ j, j < sizeAt T (posP T k) → markB T (posP T k + j) = decide (kindAt T (posP T k) = -1 ∨ kindAt T (posP T k) = -2) := fun j hj => marks_at hs h1 (show k < N by omega) (by omega) (by omega)
    by_cases g : kindAt T (posP T k) = -1 ∨ kindAt T (posP T k) = -2
    · have hc : cutB T k = false := by
        unfold cutB
        have : kindAt T (posP T k) ≠ 4 := by omega
        simp [this]
      have hmo : moreB T k = false := by
        unfold moreB
        have q1 : ¬ 0 < kindAt T (posP T k) := by omega
        have q2 : kindAt T (posP T k) ≠ -3 := by omega
        simp [q2]
        omega
      obtain ⟨e1, e2, e3⟩ := it_go hc
      obtain ⟨f1, f2, f3⟩ := r_marks (p := posP T k) (sizeAt T (posP T k)) (fun j hj => by rw [hmk j hj]; exact decide_eq_true g)
      rw [ep, e1, e2, e3, f1, f2, f3, a, b, c, hmo]
      simp
    · obtain ⟨s1, s2⟩ := piece_semi hs hp g
      have hm0 : ∀ j, j < sizeAt T (posP T k) → markB T (posP T k + j) = false := fun j hj => by rw [hmk j hj]; exact decide_eq_false g
      cases hc : cutB T k with
      | true =>
        obtain ⟨e1, e2, e3⟩ := it_cut hc
        obtain ⟨q1, q2⟩ := s1 hc
        have ep1 : posP T (k + 1) = posP T k + 1 := by rw [ep, q1]
        obtain ⟨f1, f2, f3⟩ := r_cut (T := T) (i := posP T k) (by simpa using hm0 0 (by omega)) q2
        rw [e1, e2, e3, ep1, f1, f2, f3, a, c]
        exact ⟨rfl, rfl, rfl⟩
      | false =>
        have hmo : moreB T k = true := by
          unfold moreB
          rcases piece_parts hs hp with ⟨q, _⟩ | ⟨q, _⟩ | ⟨q, _⟩
          · exact absurd (.inl q) g
          · exact absurd (.inr q) g
          · rcases q with q | q <;> simp [q]
        obtain ⟨e1, e2, e3⟩ := it_go hc
        obtain ⟨z, hz⟩ : ∃ z, sizeAt T (posP T k) = z + 1 := ⟨sizeAt T (posP T k) - 1, by omega⟩
        obtain ⟨f1, f2, f3⟩ := r_tokens (p := posP T k) z (fun j hj => ⟨hm0 j (by omega), s2 hc j (by omega)⟩)
        rw [ep, hz, e1, e2, e3, f1, f2, f3, a, c, hmo]
        simp

theorem r_items {T : List Nat} (hs : ∀ x ∈ T, x < 256) {N : Nat} (h1 : ∀ k, k < N → posP T k < T.length) (h2 : posP T N = T.length) : itemsL T N = rL T T.length ++ if rB T T.length then [(rF T T.length, T.length)] else [] := by
  obtain ⟨a, b, c⟩ := r_pieces hs h1 N (Nat.le_refl _)
  rw [h2] at a b c
  unfold itemsL
  rw [a, b, c, h2]
theorem rL_le (T : List Nat) : ∀ i, (rL T i).length ≤ i := by
  intro i
  induction i with
  | zero => exact Nat.le_refl _
  | succ i ih =>
    unfold rL
    rw [List.length_append]
    split <;> simp <;> omega
theorem rF_le (T : List Nat) : ∀ i, rF T i ≤ i := by
  intro i
  induction i with
  | zero => exact Nat.le_refl _
  | succ i ih =>
    unfold rF
    split <;> omega

end Go.Proofs.Ytehflaenehehhaa
