/- Tokens of texts one behind the other, with blanks and remarks between. -/
import Derived.Test.YtehflaenehehhaaLCover
namespace Go.Proofs.Ytehflaenehehhaa
set_option linter.unusedVariables false
set_option linter.unusedSimpArgs false
set_option maxRecDepth 100000
open Go Go.RowKit Go.Shelf Go.Lib

/-- From a place on these are the tokens, and nothing is wrong. -/
def Toks (T : List Nat) : Nat → Nat → List Tok → Prop
  | 0, p, L => p = T.length ∧ L = []
  | n + 1, p, L => (p = T.length ∧ L = []) ∨ (p < T.length ∧ (kindAt T p = -1 ∨ kindAt T p = -2) ∧ Toks T n (p + sizeAt T p) L) ∨
      (p < T.length ∧ 0 < kindAt T p ∧ faultL (kindAt T p) (sizeAt T p) = 0 ∧ ∃ L', L = (kindAt T p, p, p + sizeAt T p) :: L' ∧ Toks T n (p + sizeAt T p) L')

theorem toks_end {T : List Nat} {L : List Tok} : ∀ {n : Nat}, Toks T n T.length L → L = [] := by
  intro n
  cases n with
  | zero => intro h; exact h.2
  | succ n =>
    rintro (⟨_, h⟩ | ⟨h, _⟩ | ⟨h, _⟩)
    · exact h
    · omega
    · omega

theorem toks_of {T : List Nat} (hs : ∀ x ∈ T, x < 256) {N : Nat} (h1 : ∀ k, k < N → posP T k < T.length) (h2 : posP T N = T.length) (hf : ∀ k, k < N → faultAt T k = 0) : ∀ n k, k + n = N → ∃ L, Toks T n (posP T k) L ∧ toksL T N = toksL T k ++ L := by
  intro n
  induction n with
  | zero =>
    intro k hk
    obtain rfl : k = N := by omega
    exact ⟨[], ⟨h2, rfl⟩, by simp⟩
  | succ n ih =>
    intro k hk
    obtain ⟨L, t1, t2⟩ := ih (k + 1) (by omega)
    have hp := h1 k (by omega)
    have ep : posP T (k + 1) = posP T k + sizeAt T (posP T k) := rfl
    rcases kinds hs hp (no_wrong (hf k (by omega))) with g | g
    · refine ⟨L, .inr (.inl ⟨hp, g, t1⟩), ?_⟩
      rw [t2, toksL_no (by omega)]
    · refine ⟨(kindAt T (posP T k), posP T k, posP T (k + 1)) :: L, .inr (.inr ⟨hp, g, hf k (by omega), L, rfl, t1⟩), ?_⟩
      rw [t2, toksL_yes g]
      simp

theorem toks_are {T : List Nat} {N : Nat} (h1 : ∀ k, k < N → posP T k < T.length) (h2 : posP T N = T.length) : ∀ (n k : Nat) (L : List Tok), k ≤ N → Toks T n (posP T k) L → (∀ j, k ≤ j → j < N → faultAt T j = 0) ∧ toksL T N = toksL T k ++ L := by
  intro n
  induction n with
  | zero =>
    intro k L hk h
    have : k = N := by
      rcases Nat.lt_or_ge k N with g | g
      · have := h1 k g; have := h.1; omega
      · omega
    subst this
    exact ⟨fun j h1 h2 => by omega, by rw [h.2]; simp⟩
  | succ n ih =>
    intro k L hk h
    have ep : posP T (k + 1) = posP T k + sizeAt T (posP T k) := rfl
    rcases h with ⟨h, hL⟩ | ⟨hp, hkd, h⟩ | ⟨hp, hkd, hfl, L', hL, h⟩
    · have : k = N := by
        rcases Nat.lt_or_ge k N with g | g
        · have := h1 k g; omega
        · omega
      subst this
      exact ⟨fun j h1 h2 => by omega, by rw [hL]; simp⟩
    · have hkN : k < N := by
        rcases Nat.lt_or_ge k N with g | g
        · exact g
        · obtain rfl : k = N := by omega
          omega
      obtain ⟨i1, i2⟩ := ih (k + 1) L hkN h
      refine ⟨fun j j1 j2 => ?_, by rw [i2, toksL_no (by omega)]⟩
      rcases Nat.eq_or_lt_of_le j1 with g | g
      · rw [← g]; exact fault_none hkd
      · exact i1 j g j2
    · have hkN : k < N := by
        rcases Nat.lt_or_ge k N with g | g
        · exact g
        · obtain rfl : k = N := by omega
          omega
      obtain ⟨i1, i2⟩ := ih (k + 1) L' hkN h
      refine ⟨fun j j1 j2 => ?_, by rw [i2, toksL_yes hkd, hL]; simp; exact ep⟩
      rcases Nat.eq_or_lt_of_le j1 with g | g
      · rw [← g]; exact hfl
      · exact i1 j g j2

/-- A token moved. -/
def shiftT (s : Nat) (t : Tok) : Tok := (t.1, s + t.2.1, s + t.2.2)

theorem drop_join (A C : List Nat) (q : Nat) : (A ++ C).drop (A.length + q) = C.drop q := by
  rw [List.drop_append, List.drop_of_length_le (by omega)]
  simp
theorem kind_join (A C : List Nat) (q : Nat) : kindAt (A ++ C) (A.length + q) = kindAt C q := by unfold kindAt; rw [drop_join]
theorem size_join (A C : List Nat) (q : Nat) : sizeAt (A ++ C) (A.length + q) = sizeAt C q := by unfold sizeAt; rw [drop_join]
theorem toks_shift {A C : List Nat} : ∀ {n q : Nat} {L : List Tok}, Toks C n q L → Toks (A ++ C) n (A.length + q) (L.map (shiftT A.length)) := by
  intro n
  induction n with
  | zero => rintro q L ⟨h1, h2⟩; exact ⟨by rw [h1, List.length_append], by rw [h2]; rfl⟩
  | succ n ih =>
    intro q L h
    rcases h with ⟨h1, h2⟩ | ⟨hp, hk, h⟩ | ⟨hp, hk, hf, L', hL, h⟩
    · exact .inl ⟨by rw [h1, List.length_append], by rw [h2]; rfl⟩
    · refine .inr (.inl ⟨by rw [List.length_append]; omega, by rw [kind_join]; exact hk, ?_⟩)
      rw [size_join, Nat.add_assoc]
      exact ih h
    · refine .inr (.inr ⟨by rw [List.length_append]; omega, by rw [kind_join]; exact hk, by rw [kind_join, size_join]; exact hf, L'.map (shiftT A.length), ?_, ?_⟩)
      · rw [hL, List.map_cons, kind_join, size_join, Nat.add_assoc]
        rfl
      · rw [size_join, Nat.add_assoc]
        exact ih h

theorem runL_append (q : Nat → Bool) : ∀ (U C : List Nat), runL q (U ++ C) = if runL q U = U.length then U.length + runL q C else runL q U := by
  intro U C
  induction U with
  | nil => simp [runL]
  | cons a l ih =>
    by_cases ha : q a = true
    · have e1 : runL q (a :: l ++ C) = runL q (l ++ C) + 1 := by simp [runL, ha]
      have e2 : runL q (a :: l) = runL q l + 1 := by simp [runL, ha]
      rw [e1, e2, ih, List.length_cons]
      by_cases h : runL q l = l.length
      · rw [if_pos h, if_pos (by omega)]; omega
      · rw [if_neg h, if_neg (by omega)]
    · have e1 : runL q (a :: l ++ C) = 0 := by simp [runL, ha]
      have e2 : runL q (a :: l) = 0 := by simp [runL, ha]
      rw [e1, e2, List.length_cons, if_neg (by omega)]
theorem runL_zero {q : Nat → Bool} {C : List Nat} (h : q (nth C 0) = false) : runL q C = 0 := by
  cases C with
  | nil => rfl
  | cons a l =>
    have : q a = false := h
    simp [runL, this]
theorem runL_join {q : Nat → Bool} {U C : List Nat} (h : q (nth C 0) = false) : runL q (U ++ C) = runL q U := by
  rw [runL_append, runL_zero h]
  split <;> omega

theorem nth_left {U C : List Nat} {j : Nat} (h : j < U.length) : nth (U ++ C) j = nth U j := by
  unfold nth
  rw [List.getElem?_append_left h]
theorem nth_right {U C : List Nat} {j : Nat} : nth (U ++ C) (U.length + j) = nth C j := by
  unfold nth
  rw [List.getElem?_append_right (by omega), Nat.add_sub_cancel_left]

theorem pair_no10 (u : Nat) : pairB (strOf [u, 10]) = false := by
  cases e : pairB (strOf [u, 10]) with
  | false => rfl
  | true =>
    exfalso
    have := pair_all _ e
    rw [strOf_list] at this
    simp at this

/-- The first piece of a text with a line's end behind it: the same, but for blanks. -/
theorem first_join {U C : List Nat} (hU : 1 ≤ U.length) (hC : nth C 0 = 10) :
    (blankB (nth U 0) = false → firstL (U ++ C) = firstL U) ∧ (blankB (nth U 0) = true → (firstL (U ++ C)).1 = -1 ∧ (firstL U).1 = -1 ∧ (firstL U).2 = runL blankB U ∧ (firstL (U ++ C)).2 = runL blankB (U ++ C)) := by
  have e0 : nth (U ++ C) 0 = nth U 0 := nth_left (by omega)
  have er : remB (U ++ C) = remB U := by
    unfold remB
    rw [e0, List.length_append]
    by_cases h2 : 2 ≤ U.length
    · rw [nth_left (show 1 < U.length by omega)]
      have : 2 ≤ U.length + C.length := by omega
      simp [h2, this]
    · have h1 : U.length = 1 := by omega
      have e1 : nth (U ++ C) 1 = 10 := by
        have := nth_right (U := U) (C := C) (j := 0)
        rw [h1, Nat.add_zero] at this
        rw [this, hC]
      rw [e1]
      simp [h2]
  have es : signL (U ++ C) = signL U := by
    unfold signL
    rw [e0]
    have et : twoB (U ++ C) = twoB U := by
      unfold twoB
      rw [List.length_append]
      by_cases h2 : 2 ≤ U.length
      · rw [List.take_append_of_le_length h2]
        have : 2 ≤ U.length + C.length := by omega
        simp [h2, this]
      · have h1 : U.length = 1 := by omega
        match U, h1 with
        | [u], _ =>
          cases C with
          | nil => rfl
          | cons c l =>
            have hc : c = 10 := hC
            subst hc
            have : pairB (strOf ([u] ++ 10 :: l |>.take 2)) = false := pair_no10 u
            rw [this]
            simp
    rw [et]
  refine ⟨fun hb => ?_, fun hb => ?_⟩
  · unfold firstL
    rw [e0, er, es, hb]
    rw [runL_join (q := lineB) (by rw [hC]; rfl), runL_join (q := nameB) (by rw [hC]; rfl), runL_join (q := digitB) (by rw [hC]; rfl), List.take_append_of_le_length (runL_le _ _)]
    simp only [Bool.false_eq_true, if_false]
  · unfold firstL
    rw [e0, hb]
    exact ⟨rfl, rfl, rfl, rfl⟩

theorem drop_left {A C : List Nat} {p : Nat} (h : p ≤ A.length) : (A ++ C).drop p = A.drop p ++ C := by
  rw [List.drop_append]
  rw [show p - A.length = 0 by omega, List.drop_zero]

theorem toks_join {A C : List Nat} (hC : nth C 0 = 10) (hC1 : 1 ≤ C.length) {m : Nat} {LC : List Tok} (hT : Toks C m 0 LC) : ∀ (n p : Nat) (L : List Tok), p ≤ A.length → Toks A n p L → ∃ n', Toks (A ++ C) n' p (L ++ LC.map (shiftT A.length)) := by
  have base : ∃ n', Toks (A ++ C) n' A.length ([] ++ LC.map (shiftT A.length)) := ⟨m, toks_shift hT⟩
  have base2 : ∃ n', Toks (A ++ C) n' (A.length + runL blankB C) ([] ++ LC.map (shiftT A.length)) := by
    have hk : kindAt C 0 = -1 := by unfold kindAt firstL; rw [List.drop_zero, hC]; rfl
    have hz : sizeAt C 0 = runL blankB C := by unfold sizeAt firstL; rw [List.drop_zero, hC]; rfl
    cases m with
    | zero => have := hT.1; omega
    | succ m =>
      rcases hT with ⟨h, _⟩ | ⟨_, _, h⟩ | ⟨_, h, _⟩
      · omega
      · rw [hz, Nat.zero_add] at h
        exact ⟨m, toks_shift h⟩
      · omega
  intro n
  induction n with
  | zero =>
    rintro p L _ ⟨h1, h2⟩
    subst h1
    rw [h2]
    exact base
  | succ n ih =>
    intro p L hp h
    rcases h with ⟨h1, h2⟩ | ⟨hlt, hk, h⟩ | ⟨hlt, hk, hf, L', hL, h⟩
    · subst h1
      rw [h2]
      exact base
    · obtain ⟨z1, z2⟩ := size_bounds hlt
      obtain ⟨f1, f2⟩ := first_join (U := A.drop p) (C := C) (by rw [drop_len]; omega) hC
      rw [← drop_left (by omega)] at f1 f2
      cases hb : blankB (nth (A.drop p) 0) with
      | false =>
        have e := f1 hb
        have ek : kindAt (A ++ C) p = kindAt A p := by unfold kindAt; rw [e]
        have ez : sizeAt (A ++ C) p = sizeAt A p := by unfold sizeAt; rw [e]
        obtain ⟨n', hn'⟩ := ih _ L z2 h
        refine ⟨n' + 1, .inr (.inl ⟨by rw [List.length_append]; omega, by rw [ek]; exact hk, ?_⟩)⟩
        rw [ez]
        exact hn'
      | true =>
        obtain ⟨g1, g2, g3, g4⟩ := f2 hb
        have ek : kindAt (A ++ C) p = -1 := g1
        have ezA : sizeAt A p = runL blankB (A.drop p) := g3
        have ez : sizeAt (A ++ C) p = runL blankB (A.drop p ++ C) := by rw [← drop_left (by omega)]; exact g4
        rw [runL_append, ← ezA, drop_len] at ez
        by_cases hl : sizeAt A p = A.length - p
        · rw [if_pos hl] at ez
          have hpe : p + sizeAt A p = A.length := by omega
          rw [hpe] at h
          rw [toks_end h]
          obtain ⟨n', hn'⟩ := base2
          refine ⟨n' + 1, .inr (.inl ⟨by rw [List.length_append]; omega, .inl ek, ?_⟩)⟩
          rw [ez, show p + (A.length - p + runL blankB C) = A.length + runL blankB C by omega]
          exact hn'
        · rw [if_neg hl] at ez
          obtain ⟨n', hn'⟩ := ih _ L z2 h
          refine ⟨n' + 1, .inr (.inl ⟨by rw [List.length_append]; omega, .inl ek, ?_⟩)⟩
          rw [ez]
          exact hn'
    · obtain ⟨z1, z2⟩ := size_bounds hlt
      obtain ⟨f1, f2⟩ := first_join (U := A.drop p) (C := C) (by rw [drop_len]; omega) hC
      rw [← drop_left (by omega)] at f1 f2
      have hb : blankB (nth (A.drop p) 0) = false := by
        cases hb : blankB (nth (A.drop p) 0) with
        | false => rfl
        | true =>
          have : kindAt A p = -1 := (f2 hb).2.1
          omega
      have e := f1 hb
      have ek : kindAt (A ++ C) p = kindAt A p := by unfold kindAt; rw [e]
      have ez : sizeAt (A ++ C) p = sizeAt A p := by unfold sizeAt; rw [e]
      obtain ⟨n', hn'⟩ := ih _ L' z2 h
      refine ⟨n' + 1, .inr (.inr ⟨by rw [List.length_append]; omega, by rw [ek]; exact hk, by rw [ek, ez]; exact hf, L' ++ LC.map (shiftT A.length), ?_, ?_⟩)⟩
      · rw [hL, ek, ez]
        rfl
      · rw [ez]
        exact hn'

/-- Blanks ahead say nothing. -/
theorem toks_blank {X Y : List Nat} (hX : 1 ≤ X.length) (hb : runL blankB X = X.length) {n : Nat} {L : List Tok} (h : Toks Y n 0 L) : ∃ n', Toks (X ++ Y) n' 0 (L.map (shiftT X.length)) := by
  have h0 : blankB (nth X 0) = true := (runL_is blankB X).1 0 (by omega)
  have e0 : nth (X ++ Y) 0 = nth X 0 := nth_left (by omega)
  have ek : kindAt (X ++ Y) 0 = -1 := by unfold kindAt firstL; rw [List.drop_zero, e0, h0]; rfl
  have ez : sizeAt (X ++ Y) 0 = X.length + runL blankB Y := by
    unfold sizeAt firstL
    rw [List.drop_zero, e0, h0]
    show runL blankB (X ++ Y) = _
    rw [runL_append, if_pos hb]
  have key : ∃ m, Toks Y m (runL blankB Y) L := by
    cases hb2 : blankB (nth Y 0) with
    | false => exact ⟨n, by rw [runL_zero hb2]; exact h⟩
    | true =>
      have hk : kindAt Y 0 = -1 := by unfold kindAt firstL; rw [List.drop_zero, hb2]; rfl
      have hz : sizeAt Y 0 = runL blankB Y := by unfold sizeAt firstL; rw [List.drop_zero, hb2]; rfl
      cases n with
      | zero =>
        have := h.1
        have hY : Y = [] := List.length_eq_zero_iff.1 this.symm
        subst hY
        cases hb2
      | succ n =>
        rcases h with ⟨h, _⟩ | ⟨_, _, h⟩ | ⟨_, h, _⟩
        · have hY : Y = [] := List.length_eq_zero_iff.1 h.symm
          subst hY
          cases hb2
        · rw [hz, Nat.zero_add] at h
          exact ⟨n, h⟩
        · omega
  obtain ⟨m, hm⟩ := key
  refine ⟨m + 1, .inr (.inl ⟨by rw [List.length_append]; omega, .inl ek, ?_⟩)⟩
  rw [ez, Nat.zero_add]
  exact toks_shift hm

/-- A remark ahead of a line's end says nothing. -/
theorem toks_remark {R Y : List Nat} (hR : runL lineB R = R.length) (hY : nth Y 0 = 10) {n : Nat} {L : List Tok} (h : Toks Y n 0 L) : ∃ n', Toks (([47, 47] ++ R) ++ Y) n' 0 (L.map (shiftT ([47, 47] ++ R).length)) := by
  have ek : kindAt (([47, 47] ++ R) ++ Y) 0 = -2 := rfl
  have ez : sizeAt (([47, 47] ++ R) ++ Y) 0 = ([47, 47] ++ R).length := by
    show runL lineB (([47, 47] ++ R) ++ Y) = _
    rw [runL_join (by rw [hY]; rfl), runL_append, if_pos (by rfl), hR]
    simp
    omega
  refine ⟨n + 1, .inr (.inl ⟨by simp, .inr ek, ?_⟩)⟩
  rw [ez, Nat.zero_add]
  exact toks_shift h

theorem toks_in {T : List Nat} : ∀ {n p : Nat} {L : List Tok}, Toks T n p L → ∀ t ∈ L, t.2.1 ≤ t.2.2 ∧ t.2.2 ≤ T.length := by
  intro n
  induction n with
  | zero => rintro p L ⟨_, h⟩ t ht; rw [h] at ht; cases ht
  | succ n ih =>
    intro p L h t ht
    rcases h with ⟨_, h⟩ | ⟨_, _, h⟩ | ⟨hp, _, _, L', hL, h⟩
    · rw [h] at ht; cases ht
    · exact ih h t ht
    · rw [hL] at ht
      rcases List.mem_cons.1 ht with e | e
      · rw [e]
        have := (size_bounds hp).2
        exact ⟨Nat.le_add_right _ _, this⟩
      · exact ih h t e
theorem text_left {A C : List Nat} {t : Tok} (h1 : t.2.1 ≤ t.2.2) (h : t.2.2 ≤ A.length) : tokText (A ++ C) t = tokText A t := by
  unfold tokText
  rw [drop_left (by omega), List.take_append_of_le_length (by rw [drop_len]; omega)]
theorem text_right {A C : List Nat} {t : Tok} : tokText (A ++ C) (shiftT A.length t) = tokText C t := by
  unfold tokText shiftT
  dsimp only
  rw [drop_join, show A.length + t.2.2 - (A.length + t.2.1) = t.2.2 - t.2.1 by omega]

/-- What is put between. -/
def midL (R : List Nat) : List Nat := [10, 9, 32] ++ (([47, 47] ++ R) ++ [10, 32])
theorem midL_length (R : List Nat) : (midL R).length = R.length + 7 := by simp [midL]
theorem shift_shift (a b : Nat) (L : List Tok) : (L.map (shiftT b)).map (shiftT a) = L.map (shiftT (a + b)) := by
  rw [List.map_map]
  apply List.map_congr_left
  intro t _
  simp [shiftT, Nat.add_assoc]
theorem toks_between {A R B : List Nat} (hR : runL lineB R = R.length) {n m : Nat} {LA LB : List Tok} (hA : Toks A n 0 LA) (hB : Toks B m 0 LB) : ∃ n', Toks (A ++ (midL R ++ B)) n' 0 (LA ++ LB.map (shiftT (A.length + (midL R).length))) := by
  obtain ⟨n1, h1⟩ := toks_blank (X := [10, 32]) (Y := B) (by decide) (by decide) hB
  obtain ⟨n2, h2⟩ := toks_remark (R := R) (Y := [10, 32] ++ B) hR rfl h1
  obtain ⟨n3, h3⟩ := toks_blank (X := [10, 9, 32]) (by decide) (by decide) h2
  rw [shift_shift, shift_shift] at h3
  have e : [10, 9, 32] ++ (([47, 47] ++ R) ++ ([10, 32] ++ B)) = midL R ++ B := by simp [midL]
  rw [e] at h3
  obtain ⟨n4, h4⟩ := toks_join (A := A) (C := midL R ++ B) rfl (by simp [midL]) h3 n 0 LA (Nat.zero_le _) hA
  rw [shift_shift] at h4
  refine ⟨n4, ?_⟩
  rw [show A.length + (midL R).length = A.length + ([10, 9, 32].length + ([47, 47] ++ R).length + [10, 32].length) by simp [midL]; omega]
  exact h4

end Go.Proofs.Ytehflaenehehhaa
