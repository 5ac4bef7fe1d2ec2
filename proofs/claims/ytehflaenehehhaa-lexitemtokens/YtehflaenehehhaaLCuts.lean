/- The tokens of a part of a text, from one piece's beginning to another's, are the text's, moved. -/
import Derived.Test.YtehflaenehehhaaLJoin
import Derived.Test.YtehflaenehehhaaLItems
namespace Go.Proofs.Ytehflaenehehhaa
set_option linter.unusedVariables false
set_option linter.unusedSimpArgs false
set_option maxRecDepth 100000
open Go Go.RowKit Go.Shelf Go.Lib

theorem runL_take {q : Nat → Bool} : ∀ (V : List Nat) (n : Nat), runL q V ≤ n → runL q (V.take n) = runL q V := by
  intro V
  induction V with
  | nil => intro n _; simp [runL]
  | cons a l ih =>
    intro n h
    by_cases ha : q a = true
    · have e : runL q (a :: l) = runL q l + 1 := by simp [runL, ha]
      cases n with
      | zero => omega
      | succ n =>
        have e2 : runL q ((a :: l).take (n + 1)) = runL q (l.take n) + 1 := by simp [runL, ha]
        rw [e, e2, ih n (by omega)]
    · have e : runL q (a :: l) = 0 := by simp [runL, ha]
      cases n with
      | zero => rw [e]; rfl
      | succ n =>
        have e2 : runL q ((a :: l).take (n + 1)) = 0 := by simp [runL, ha]
        rw [e, e2]

theorem first_take {V : List Nat} {n : Nat} (hV : 1 ≤ V.length) (hn : 1 ≤ n) (hz : (firstL V).2 ≤ n) : firstL (V.take n) = firstL V := by
  have e0 : nth (V.take n) 0 = nth V 0 := nth_take hn
  by_cases g1 : blankB (nth V 0) = true
  · have ez : (firstL V).2 = runL blankB V := by unfold firstL; rw [if_pos g1]
    unfold firstL
    rw [e0, if_pos g1, if_pos g1, runL_take V n (by omega)]
  by_cases g2 : remB V = true
  · have ez : (firstL V).2 = runL lineB V := by unfold firstL; rw [if_neg g1, if_pos g2]
    have h2 : 2 ≤ n := by
      have g2' := g2
      unfold remB at g2'
      simp at g2'
      have : 2 ≤ runL lineB V := by
        match V, g2'.1.1 with
        | a :: b :: l, _ =>
          have ha : a = 47 := g2'.1.2
          have hb : b = 47 := g2'.2
          subst ha
          subst hb
          simp [runL, lineB]
      omega
    have er : remB (V.take n) = true := by
      unfold remB at g2 ⊢
      rw [e0, nth_take (by omega), List.length_take]
      simp at g2 ⊢
      omega
    unfold firstL
    rw [e0, if_neg g1, if_neg g1, if_pos er, if_pos g2, runL_take V n (by omega)]
  have er : ¬ remB (V.take n) = true := by
    intro e
    apply g2
    unfold remB at e ⊢
    rw [List.length_take] at e
    simp at e ⊢
    rw [e0, nth_take (by omega)] at e
    omega
  by_cases g3 : letterB (nth V 0) = true
  · have ez : (firstL V).2 = runL nameB V := by unfold firstL; rw [if_neg g1, if_neg g2, if_pos g3]
    unfold firstL
    rw [e0, if_neg g1, if_neg g1, if_neg er, if_neg g2, if_pos g3, if_pos g3, runL_take V n (by omega), List.take_take, Nat.min_eq_left (by omega)]
  by_cases g4 : digitB (nth V 0) = true
  · have ez : (firstL V).2 = runL digitB V := by unfold firstL; rw [if_neg g1, if_neg g2, if_neg g3, if_pos g4]
    unfold firstL
    rw [e0, if_neg g1, if_neg g1, if_neg er, if_neg g2, if_neg g3, if_neg g3, if_pos g4, if_pos g4, runL_take V n (by omega)]
  have es : signL (V.take n) = signL V := by
    unfold signL
    rw [e0]
    by_cases gt : twoB V = true
    · have h2 : 2 ≤ n := by
        have ez : (firstL V).2 = 2 := by
          unfold firstL
          rw [if_neg g1, if_neg g2, if_neg g3, if_neg g4]
          unfold signL
          rw [if_pos gt]
          rfl
        omega
      have : twoB (V.take n) = true := by
        unfold twoB at gt ⊢
        rw [List.length_take, List.take_take, Nat.min_eq_left h2]
        rw [Bool.and_eq_true, decide_eq_true_eq] at gt ⊢
        exact ⟨Nat.le_min.2 ⟨h2, gt.1⟩, gt.2⟩
      rw [if_pos this, if_pos gt]
    · have : ¬ twoB (V.take n) = true := by
        intro e
        apply gt
        unfold twoB at e ⊢
        rw [List.length_take] at e
        rw [Bool.and_eq_true, decide_eq_true_eq] at e ⊢
        obtain ⟨e1, e2⟩ := e
        have h2 := Nat.le_min.1 e1
        rw [List.take_take, Nat.min_eq_left h2.1] at e2
        exact ⟨h2.2, e2⟩
      rw [if_neg this, if_neg gt]
  unfold firstL
  rw [e0, if_neg g1, if_neg g1, if_neg er, if_neg g2, if_neg g3, if_neg g3, if_neg g4, if_neg g4, es]

/-- The part of a text between two places. -/
def partT (T : List Nat) (f t : Nat) : List Nat := (T.drop f).take (t - f)
theorem partT_length {T : List Nat} {f t : Nat} (h : t ≤ T.length) : (partT T f t).length = t - f := by
  unfold partT
  rw [List.length_take, List.length_drop]
  omega
theorem partT_drop {T : List Nat} {f t p : Nat} (h1 : f ≤ p) (h2 : p ≤ t) : (partT T f t).drop (p - f) = (T.drop p).take (t - p) := by
  unfold partT
  rw [List.drop_take, List.drop_drop, show f + (p - f) = p by omega, show t - f - (p - f) = t - p by omega]

/-- The tokens of d pieces from the k-th on. -/
def tokR (T : List Nat) : Nat → Nat → List Tok
  | _, 0 => []
  | k, d + 1 => (if 0 < kindAt T (posP T k) then [(kindAt T (posP T k), posP T k, posP T (k + 1))] else []) ++ tokR T (k + 1) d
theorem toksL_tokR (T : List Nat) : ∀ d k, toksL T (k + d) = toksL T k ++ tokR T k d := by
  intro d
  induction d with
  | zero => intro k; simp [tokR]
  | succ d ih =>
    intro k
    rw [show k + (d + 1) = (k + 1) + d by omega, ih (k + 1)]
    show (toksL T k ++ _) ++ _ = toksL T k ++ (_ ++ _)
    rw [List.append_assoc]

theorem pos_mono {T : List Nat} : ∀ d k, posP T k ≤ posP T (k + d) := by
  intro d
  induction d with
  | zero => intro k; exact Nat.le_refl _
  | succ d ih =>
    intro k
    have := ih k
    show posP T k ≤ posP T (k + d) + sizeAt T (posP T (k + d))
    omega

/-- A token as a part has it that begins at f. -/
def backT (f : Nat) (t : Tok) : Tok := (t.1, t.2.1 - f, t.2.2 - f)

theorem part_toks {T : List Nat} (hs : ∀ x ∈ T, x < 256) {N : Nat} (h1 : ∀ k, k < N → posP T k < T.length) (h2 : posP T N = T.length) (hf : ∀ k, k < N → faultAt T k = 0) {i j : Nat} (hij : i ≤ j) (hj : j ≤ N) :
    ∀ d k, i ≤ k → k + d = j → Toks (partT T (posP T i) (posP T j)) d (posP T k - posP T i) ((tokR T k d).map (backT (posP T i))) := by
  have hjT : posP T j ≤ T.length := by
    have := pos_mono (T := T) (N - j) j
    rw [show j + (N - j) = N by omega, h2] at this
    exact this
  intro d
  induction d with
  | zero =>
    intro k hk e
    obtain rfl : k = j := by omega
    exact ⟨(partT_length hjT).symm, rfl⟩
  | succ d ih =>
    intro k hk e
    have hp := h1 k (by omega)
    have ep : posP T (k + 1) = posP T k + sizeAt T (posP T k) := rfl
    obtain ⟨z1, z2⟩ := size_bounds hp
    have hle : posP T i ≤ posP T k := by have := pos_mono (T := T) (k - i) i; rwa [show i + (k - i) = k by omega] at this
    have hle2 : posP T (k + 1) ≤ posP T j := by have := pos_mono (T := T) d (k + 1); rwa [show k + 1 + d = j by omega] at this
    have hft : firstL ((partT T (posP T i) (posP T j)).drop (posP T k - posP T i)) = firstL (T.drop (posP T k)) := by
      rw [partT_drop hle (by omega)]
      exact first_take (by rw [drop_len]; omega) (by omega) (by show sizeAt T (posP T k) ≤ _; omega)
    have ek : kindAt (partT T (posP T i) (posP T j)) (posP T k - posP T i) = kindAt T (posP T k) := by unfold kindAt; rw [hft]
    have ez : sizeAt (partT T (posP T i) (posP T j)) (posP T k - posP T i) = sizeAt T (posP T k) := by unfold sizeAt; rw [hft]
    have hl : posP T k - posP T i < (partT T (posP T i) (posP T j)).length := by rw [partT_length hjT]; omega
    have hnext := ih (k + 1) (by omega) (by omega)
    have eq : posP T (k + 1) - posP T i = posP T k - posP T i + sizeAt T (posP T k) := by omega
    rcases kinds hs hp (no_wrong (hf k (by omega))) with g | g
    · refine .inr (.inl ⟨hl, by rw [ek]; exact g, ?_⟩)
      rw [ez, ← eq]
      have : tokR T k (d + 1) = tokR T (k + 1) d := by
        show (if 0 < kindAt T (posP T k) then _ else _) ++ _ = _
        rw [if_neg (by omega), List.nil_append]
      rw [this]
      exact hnext
    · refine .inr (.inr ⟨hl, by rw [ek]; exact g, by rw [ek, ez]; exact hf k (by omega), (tokR T (k + 1) d).map (backT (posP T i)), ?_, by rw [ez, ← eq]; exact hnext⟩)
      have : tokR T k (d + 1) = (kindAt T (posP T k), posP T k, posP T (k + 1)) :: tokR T (k + 1) d := by
        show (if 0 < kindAt T (posP T k) then _ else _) ++ _ = _
        rw [if_pos g]
        rfl
      rw [this, List.map_cons, ek, ez, ← eq]
      rfl

/-- Where items begin and end, by pieces. -/
def itI (T : List Nat) : Nat → Nat
  | 0 => 0
  | k + 1 => if cutB T k then k + 1 else itI T k
def ixL (T : List Nat) : Nat → List (Nat × Nat)
  | 0 => []
  | k + 1 => ixL T k ++ if cutB T k then [(itI T k, k + 1)] else []
def ixAll (T : List Nat) (N : Nat) : List (Nat × Nat) := ixL T N ++ if itB T N then [(itI T N, N)] else []
def ixEnd (T : List Nat) (N : Nat) : Nat := if itB T N then N else itI T N
theorem itF_is (T : List Nat) : ∀ k, itF T k = posP T (itI T k) := by
  intro k
  induction k with
  | zero => rfl
  | succ k ih =>
    show (if cutB T k = true then _ else _) = posP T (if cutB T k = true then _ else _)
    by_cases h : cutB T k = true
    · rw [if_pos h, if_pos h]
    · rw [if_neg h, if_neg h, ih]
def pairP (T : List Nat) (p : Nat × Nat) : Nat × Nat := (posP T p.1, posP T p.2)
theorem itL_is (T : List Nat) : ∀ k, itL T k = (ixL T k).map (pairP T) := by
  intro k
  induction k with
  | zero => rfl
  | succ k ih =>
    show itL T k ++ (if cutB T k = true then _ else _) = (ixL T k ++ (if cutB T k = true then _ else _)).map _
    rw [List.map_append, ih]
    by_cases h : cutB T k = true
    · rw [if_pos h, if_pos h, itF_is]; rfl
    · rw [if_neg h, if_neg h]; rfl
theorem items_are (T : List Nat) (N : Nat) : itemsL T N = (ixAll T N).map (pairP T) := by
  unfold itemsL ixAll
  rw [List.map_append, itL_is]
  by_cases h : itB T N = true
  · rw [if_pos h, if_pos h, itF_is]; rfl
  · rw [if_neg h, if_neg h]; rfl
/-- One behind the other. -/
def ChainI : Nat → List (Nat × Nat) → Nat → Prop
  | a, [], e => e = a
  | a, p :: l, e => p.1 = a ∧ p.1 < p.2 ∧ ChainI p.2 l e
theorem chainI_snoc {i j : Nat} (hij : i < j) : ∀ {L : List (Nat × Nat)} {a : Nat}, ChainI a L i → ChainI a (L ++ [(i, j)]) j := by
  intro L
  induction L with
  | nil => intro a h; have e : i = a := h; exact ⟨e, hij, rfl⟩
  | cons p l ih => intro a h; exact ⟨h.1, h.2.1, ih h.2.2⟩
theorem itI_le (T : List Nat) : ∀ k, itI T k ≤ k := by
  intro k
  induction k with
  | zero => exact Nat.le_refl _
  | succ k ih =>
    show (if cutB T k = true then _ else _) ≤ _
    split <;> omega
theorem ix_chain (T : List Nat) : ∀ k, ChainI 0 (ixL T k) (itI T k) := by
  intro k
  induction k with
  | zero => rfl
  | succ k ih =>
    show ChainI 0 (ixL T k ++ (if cutB T k = true then _ else _)) (if cutB T k = true then _ else _)
    by_cases h : cutB T k = true
    · rw [if_pos h, if_pos h]
      exact chainI_snoc (by have := itI_le T k; omega) ih
    · rw [if_neg h, if_neg h, List.append_nil]
      exact ih
theorem itB_lt {T : List Nat} : ∀ {k}, itB T k = true → itI T k < k := by
  intro k
  induction k with
  | zero => intro h; cases h
  | succ k ih =>
    intro h
    by_cases hc : cutB T k = true
    · rw [(it_cut hc).2.1] at h; cases h
    · show (if cutB T k = true then _ else _) < _
      rw [if_neg hc]
      have := itI_le T k
      omega
theorem all_chain (T : List Nat) (N : Nat) : ChainI 0 (ixAll T N) (ixEnd T N) := by
  unfold ixAll ixEnd
  by_cases h : itB T N = true
  · rw [if_pos h, if_pos h]
    exact chainI_snoc (itB_lt h) (ix_chain T N)
  · rw [if_neg h, if_neg h, List.append_nil]
    exact ix_chain T N
theorem rest_none {T : List Nat} : ∀ k, itB T k = false → toksL T k = toksL T (itI T k) := by
  intro k
  induction k with
  | zero => intro _; rfl
  | succ k ih =>
    intro h
    by_cases hc : cutB T k = true
    · have : itI T (k + 1) = k + 1 := by show (if cutB T k = true then _ else _) = _; rw [if_pos hc]
      rw [this]
    · have e : itI T (k + 1) = itI T k := by show (if cutB T k = true then _ else _) = _; rw [if_neg hc]
      rw [(it_go (by simpa using hc)).2.1] at h
      simp at h
      have hm := h.2
      unfold moreB at hm
      simp at hm
      rw [e, toksL_no (by omega)]
      exact ih h.1
theorem end_toks (T : List Nat) (N : Nat) : toksL T (ixEnd T N) = toksL T N := by
  unfold ixEnd
  cases h : itB T N with
  | true => rfl
  | false => exact (rest_none N h).symm
theorem chainI_at {a e j : Nat} {L : List (Nat × Nat)} {p : Nat × Nat} (h : ChainI a (L.drop j) e) (hp : L[j]? = some p) : p.1 = a ∧ p.1 < p.2 ∧ ChainI p.2 (L.drop (j + 1)) e := by
  have hj : j < L.length := (List.getElem?_eq_some_iff.1 hp).1
  have e : L.drop j = p :: L.drop (j + 1) := by
    rw [List.drop_eq_getElem_cons hj, (List.getElem?_eq_some_iff.1 hp).2]
  rw [e] at h
  exact h
theorem chainI_le {N : Nat} : ∀ {L : List (Nat × Nat)} {a e : Nat}, ChainI a L e → a ≤ e := by
  intro L
  induction L with
  | nil => intro a e h; have : e = a := h; omega
  | cons p l ih => intro a e h; have := ih h.2.2; have := h.1; have := h.2.1; omega
theorem ixEnd_le (T : List Nat) (N : Nat) : ixEnd T N ≤ N := by
  unfold ixEnd
  split
  · exact Nat.le_refl _
  · exact itI_le T N

end Go.Proofs.Ytehflaenehehhaa
