/- Letters come back from their positions: lines, letters and places of a text that is letters. -/
import Derived.Test.YthhpfdjcggfhaaaDoorUJoin
import Derived.Test.YthhpfdjcggfhaaaDoorUPlace
namespace Go.Proofs.YthhpfdjcggfhaaaDoor
set_option linter.unusedVariables false
set_option linter.unusedSimpArgs false
open Go Go.RowKit Go.Shelf Go.Lib

theorem nthI_left {L M : List Int} {i : Nat} (h : i < L.length) : nthI (L ++ M) i = nthI L i := by
  unfold nthI
  rw [List.getElem?_append_left h]
theorem nthI_last (L : List Int) (y : Int) : nthI (L ++ [y]) L.length = y := by
  unfold nthI
  rw [List.getElem?_append_right (Nat.le_refl _), Nat.sub_self]
  rfl
theorem linesTo_pos (T : List Nat) (k : Nat) : 1 ≤ (linesTo T k).length ∧ nthI (linesTo T k) 0 = 0 := by
  induction k with
  | zero => exact ⟨Nat.le_refl _, rfl⟩
  | succ k ih =>
    by_cases hb : brk T k = true
    · rw [lines_yes hb, List.length_append, nthI_left (by omega)]
      exact ⟨by simp, ih.2⟩
    · rw [lines_no (by simpa using hb)]
      exact ih
/-- The beginnings of lines: they rise; each is one; each one is there. -/
theorem linesTo_spec (T : List Nat) (k : Nat) : (∀ i j, i < j → j < (linesTo T k).length → nthI (linesTo T k) i < nthI (linesTo T k) j) ∧ (∀ i, i < (linesTo T k).length → ∃ x : Nat, nthI (linesTo T k) i = (x : Int) ∧ x ≤ k ∧ (x = 0 ∨ brk T (x - 1) = true)) ∧ (∀ x, 1 ≤ x → x ≤ k → brk T (x - 1) = true → ∃ i, i < (linesTo T k).length ∧ nthI (linesTo T k) i = (x : Int)) := by
  induction k with
  | zero =>
    have hl : (linesTo T 0).length = 1 := rfl
    refine ⟨fun i j h1 h2 => by omega, fun i hi => ⟨0, ?_, Nat.le_refl _, .inl rfl⟩, fun x h1 h2 => by omega⟩
    obtain rfl : i = 0 := by omega
    rfl
  | succ k ih =>
    obtain ⟨a1, a2, a3⟩ := ih
    by_cases hb : brk T k = true
    · rw [lines_yes hb]
      have hl : (linesTo T k ++ [((k + 1 : Nat) : Int)]).length = (linesTo T k).length + 1 := by simp
      rw [hl]
      refine ⟨fun i j h1 h2 => ?_, fun i hi => ?_, fun x h1 h2 h3 => ?_⟩
      · rcases Nat.lt_succ_iff_lt_or_eq.1 h2 with g | g
        · rw [nthI_left (by omega), nthI_left g]
          exact a1 i j h1 g
        · subst g
          rw [nthI_left h1, nthI_last]
          obtain ⟨x, e, hx, _⟩ := a2 i h1
          rw [e]; omega
      · rcases Nat.lt_succ_iff_lt_or_eq.1 hi with g | g
        · rw [nthI_left g]
          obtain ⟨x, e, hx, h⟩ := a2 i g
          exact ⟨x, e, by omega, h⟩
        · subst g
          rw [nthI_last]
          exact ⟨k + 1, rfl, Nat.le_refl _, .inr hb⟩
      · by_cases hx : x ≤ k
        · obtain ⟨i, h4, h5⟩ := a3 x h1 hx h3
          exact ⟨i, by omega, by rw [nthI_left h4]; exact h5⟩
        · obtain rfl : x = k + 1 := by omega
          exact ⟨(linesTo T k).length, by omega, nthI_last _ _⟩
    · have hb' : brk T k = false := by simpa using hb
      rw [lines_no hb']
      refine ⟨a1, fun i hi => ?_, fun x h1 h2 h3 => ?_⟩
      · obtain ⟨x, e, hx, h⟩ := a2 i hi
        exact ⟨x, e, by omega, h⟩
      · by_cases hx : x ≤ k
        · exact a3 x h1 hx h3
        · obtain rfl : x = k + 1 := by omega
          rw [Nat.add_sub_cancel, hb'] at h3
          cases h3

theorem line_at {T : List Nat} {a i : Nat} (h : LineOf (linesL T) (a : Int) i) (ha : a ≤ T.length) :
    ∃ f : Nat, nthI (linesL T) i = (f : Int) ∧ i < (linesL T).length ∧ f ≤ a ∧ f ≤ T.length ∧ (f = 0 ∨ brk T (f - 1) = true) ∧ ∀ x, f < x → x ≤ a → brk T (x - 1) = false := by
  unfold linesL at h ⊢
  obtain ⟨s1, s2, s3⟩ := linesTo_spec T T.length
  have hp := linesTo_pos T T.length
  obtain ⟨h1, h2, h3⟩ := h
  have hi : i < (linesTo T T.length).length := by omega
  obtain ⟨f, e, hf, hx⟩ := s2 i hi
  refine ⟨f, e, hi, ?_, hf, hx, fun x g1 g2 => ?_⟩
  · rcases Nat.eq_zero_or_pos i with g | g
    · subst g; rw [hp.2] at e; omega
    · have := h2 g; rw [e] at this; omega
  · cases hb : brk T (x - 1) with
    | false => rfl
    | true =>
      exfalso
      obtain ⟨j, hj, ej⟩ := s3 x (by omega) (by omega) hb
      rcases Nat.lt_trichotomy i j with g | g | g
      · have := h3 j g hj; omega
      · subst g; omega
      · have := s1 j i g hi; omega
theorem line_rise {T : List Nat} {i j f g : Nat} (hi : i < (linesL T).length) (hj : j < (linesL T).length) (ei : nthI (linesL T) i = (f : Int)) (ej : nthI (linesL T) j = (g : Int)) (h : i < j) : f < g := by
  have := (linesTo_spec T T.length).1 i j h hj
  unfold linesL at ei ej
  omega

section
variable {T : List Nat} {N : Nat}

theorem pos_step (hT : ∀ x ∈ T, x < 256) (h1 : ∀ k, k < N → posL T k < T.length) {k : Nat} (hk : k < N) : posL T k < posL T (k + 1) := by
  have := (size_bounds hT (h1 k hk)).1
  show _ < posL T k + _
  omega
theorem pos_mono (hT : ∀ x ∈ T, x < 256) (h1 : ∀ k, k < N → posL T k < T.length) {i j : Nat} (hij : i < j) (hj : j ≤ N) : posL T i < posL T j := by
  induction j with
  | zero => omega
  | succ j ih =>
    have hs := pos_step hT h1 (show j < N by omega)
    rcases Nat.lt_succ_iff_lt_or_eq.1 hij with g | g
    · have := ih g (by omega); omega
    · rw [g]; exact hs
theorem pos_inj (hT : ∀ x ∈ T, x < 256) (h1 : ∀ k, k < N → posL T k < T.length) {i j : Nat} (hi : i ≤ N) (hj : j ≤ N) (e : posL T i = posL T j) : i = j := by
  rcases Nat.lt_trichotomy i j with g | g | g
  · have := pos_mono hT h1 g hj; omega
  · exact g
  · have := pos_mono hT h1 g hi; omega
theorem pos_le_iff (hT : ∀ x ∈ T, x < 256) (h1 : ∀ k, k < N → posL T k < T.length) {i j : Nat} (hi : i ≤ N) (hj : j ≤ N) (e : posL T i ≤ posL T j) : i ≤ j := by
  rcases Nat.lt_or_ge j i with g | g
  · have := pos_mono hT h1 g hi; omega
  · exact g
theorem units_mono {i j : Nat} (hij : i ≤ j) : unitsL T i ≤ unitsL T j := by
  induction j with
  | zero =>
    obtain rfl : i = 0 := by omega
    exact Nat.le_refl _
  | succ j ih =>
    rcases Nat.eq_or_lt_of_le hij with g | g
    · rw [g]; exact Nat.le_refl _
    · have h2 := ih (by omega)
      show _ ≤ unitsL T j + _
      omega
theorem units_lt {i j : Nat} (hij : i < j) : unitsL T i < unitsL T j := by
  have h1 : unitsL T i < unitsL T (i + 1) := by
    show _ < unitsL T i + unitOf _
    have : 1 ≤ unitOf (runeAt T (posL T i)) := by unfold unitOf; split <;> omega
    omega
  have := units_mono (T := T) (show i + 1 ≤ j by omega)
  omega
/-- Every byte lies in a letter. -/
theorem cover (h1 : ∀ k, k < N → posL T k < T.length) (h2 : posL T N = T.length) {p : Nat} (hp : p < T.length) : ∃ j, j < N ∧ posL T j ≤ p ∧ p < posL T (j + 1) := by
  have key : ∀ m, m ≤ N → p < posL T m → ∃ j, j < N ∧ posL T j ≤ p ∧ p < posL T (j + 1) := by
    intro m
    induction m with
    | zero => intro _ h; exact absurd h (by show ¬ p < 0; omega)
    | succ m ih =>
      intro hm h
      by_cases g : p < posL T m
      · exact ih (by omega) g
      · exact ⟨m, by omega, by omega, h⟩
  exact key N (Nat.le_refl _) (by omega)
theorem rune_ascii {p : Nat} (hp : p < T.length) (h : nth T p < 128) : runeAt T p = ((nth T p : Nat) : Int) ∧ sizeAt T p = 1 := by
  have hd := decL_at hp
  rw [Nat.add_zero] at hd
  have e : decodeN (T.length - p) (nth T p) (nth T (p + 1)) (nth T (p + 2)) (nth T (p + 3)) = (nth T p, 1) := by
    unfold decodeN
    rw [if_pos h]
  rw [e] at hd
  unfold runeAt sizeAt
  rw [hd]
  refine ⟨?_, rfl⟩
  rw [if_neg (by simp; omega)]
/-- A line's end is a letter of its own. -/
theorem end_letter (hT : ∀ x ∈ T, x < 256) (h1 : ∀ k, k < N → posL T k < T.length) (h2 : posL T N = T.length) {p : Nat} (hp : p < T.length) (hx : nth T p = 10 ∨ nth T p = 13) : ∃ j, j < N ∧ posL T j = p ∧ posL T (j + 1) = p + 1 := by
  obtain ⟨j, hj, a, b⟩ := cover h1 h2 hp
  have hpj := h1 j hj
  by_cases g : nth T (posL T j) < 128
  · have hs := (rune_ascii hpj g).2
    have e : posL T (j + 1) = posL T j + sizeAt T (posL T j) := rfl
    exact ⟨j, hj, by omega, by omega⟩
  · have := dec_high hpj (by omega) p a b
    omega
end

/-- Where a letter stands: its line begins with letter j0, the line's letters end ahead of letter je. -/
def Stands (T : List Nat) (N j : Nat) (ln un : Int) (i j0 je : Nat) : Prop :=
  ln = (i : Int) ∧ i < (linesL T).length ∧ nthI (linesL T) i = ((posL T j0 : Nat) : Int) ∧ j0 ≤ j ∧ j0 ≤ je ∧ je ≤ N ∧ IsEnd T (posL T j0) (posL T je) ∧
  (posL T j0 = 0 ∨ brk T (posL T j0 - 1) = true) ∧ (∀ x, posL T j0 < x → x ≤ posL T j → brk T (x - 1) = false) ∧ un = ((unitsL T (min j je) : Nat) : Int) - ((unitsL T j0 : Nat) : Int)

theorem lineL_nth {T : List Nat} {f e m : Nat} (h : m < e - f) : nth (lineL T f e) m = nth T (f + m) := by
  unfold lineL nth
  rw [List.getElem?_take_of_lt h, List.getElem?_drop]

/-- The letters of a line are the text's. -/
theorem line_letters {T : List Nat} {N : Nat} (hT : ∀ x ∈ T, x < 256) (h1 : ∀ k, k < N → posL T k < T.length) (h2 : posL T N = T.length) (hv : AllLet T N) {j0 je : Nat} (hj : j0 ≤ je) (hje : je ≤ N) :
    ∀ q, j0 + q ≤ je → posL T (j0 + q) = posL T j0 + posL (lineL T (posL T j0) (posL T je)) q ∧ unitsL T (j0 + q) = unitsL T j0 + unitsL (lineL T (posL T j0) (posL T je)) q := by
  have hpe : posL T je ≤ T.length := by
    rcases Nat.eq_or_lt_of_le hje with g | g
    · rw [g, h2]; exact Nat.le_refl _
    · exact Nat.le_of_lt (h1 je g)
  have hp0 : posL T j0 ≤ posL T je := by
    rcases Nat.eq_or_lt_of_le hj with g | g
    · rw [g]; exact Nat.le_refl _
    · exact Nat.le_of_lt (pos_mono hT h1 g hje)
  have hll := lineL_length hp0 hpe
  intro q
  induction q with
  | zero => intro _; exact ⟨rfl, rfl⟩
  | succ q ih =>
    intro hq
    obtain ⟨e1, e2⟩ := ih (by omega)
    have hp := h1 (j0 + q) (by omega)
    have hnx : posL T (j0 + q + 1) ≤ posL T je := by
      rcases Nat.eq_or_lt_of_le (show j0 + q + 1 ≤ je by omega) with g | g
      · rw [g]; exact Nat.le_refl _
      · exact Nat.le_of_lt (pos_mono hT h1 g hje)
    have es : posL T (j0 + q + 1) = posL T (j0 + q) + sizeAt T (posL T (j0 + q)) := rfl
    have hst := rune_stable (T' := lineL T (posL T j0) (posL T je)) (p' := posL (lineL T (posL T j0) (posL T je)) q) hT hp (hv (j0 + q) (by omega)) (fun d hd => (lineL_nth (by omega)).trans (by congr 1; omega)) (by omega)
    constructor
    · show posL T (j0 + q) + sizeAt T (posL T (j0 + q)) = posL T j0 + (posL (lineL T (posL T j0) (posL T je)) q + sizeAt (lineL T (posL T j0) (posL T je)) (posL (lineL T (posL T j0) (posL T je)) q))
      rw [hst.2]
      omega
    · show unitsL T (j0 + q) + unitOf (runeAt T (posL T (j0 + q))) = unitsL T j0 + (unitsL (lineL T (posL T j0) (posL T je)) q + unitOf (runeAt (lineL T (posL T j0) (posL T je)) (posL (lineL T (posL T j0) (posL T je)) q)))
      rw [hst.1]
      omega

theorem isEnd_one {T : List Nat} {f e e' : Nat} (h : IsEnd T f e) (h' : IsEnd T f e') : e = e' := by
  obtain ⟨a1, a2, a3, a4⟩ := h
  obtain ⟨b1, b2, b3, b4⟩ := h'
  rcases Nat.lt_trichotomy e e' with g | g | g
  · have h1 := a4 (by omega)
    have h2 := b3 e a1 g
    omega
  · exact g
  · have h1 := b4 (by omega)
    have h2 := a3 e' b1 g
    omega
theorem brk_byte {T : List Nat} {p : Nat} (h : brk T p = true) : nth T p = 10 ∨ nth T p = 13 := by
  unfold brk at h
  simp at h
  rcases h with h | h
  · exact .inl h
  · exact .inr h.1
theorem clamp_in {m : Nat} {L : Nat} (h : m ≤ L) : clamp (m : Int) (L : Int) = (m : Int) := by
  unfold clamp
  rw [if_neg (by omega), if_neg (by omega)]

/-- The place of a letter. -/
theorem place_stands {T : List Nat} {N : Nat} (hT : ∀ x ∈ T, x < 256) (h1 : ∀ k, k < N → posL T k < T.length) (h2 : posL T N = T.length) (hv : AllLet T N) {j : Nat} (hj : j < N) {ln un : Int}
    (h : PlaceR T (linesL T) ((posL T j : Nat) : Int) ln un) : ∃ i j0 je, Stands T N j ln un i j0 je := by
  have hP := h1 j hj
  rcases h with ⟨h, _⟩ | ⟨a, i, f, en, M, k, _, ha, hl, rfl, hc, hE, n1, n2, hk, k1, k2, rfl⟩
  · have := (linesTo_pos T T.length).1
    unfold linesL at h
    rw [h] at this
    simp at this
  · have haP : a = posL T j := by
      rw [clamp_in (by omega)] at ha
      omega
    subst haP
    obtain ⟨f', ef, hi, hfa, hfl, hf0, hno⟩ := line_at hl (by omega)
    rw [ef, clamp_in hfl] at hc
    obtain rfl : f' = f := by omega
    obtain ⟨j0, hj0, ej0⟩ : ∃ j0, j0 ≤ N ∧ posL T j0 = f' := by
      rcases hf0 with g | g
      · exact ⟨0, Nat.zero_le _, g.symm⟩
      · by_cases g0 : f' = 0
        · exact ⟨0, Nat.zero_le _, g0.symm⟩
        · obtain ⟨q, hq, _, e⟩ := end_letter hT h1 h2 (p := f' - 1) (by omega) (brk_byte g)
          exact ⟨q + 1, by omega, by omega⟩
    obtain ⟨je, hje, eje⟩ : ∃ je, je ≤ N ∧ posL T je = en := by
      by_cases g : en < T.length
      · obtain ⟨q, hq, e, _⟩ := end_letter hT h1 h2 g (hE.2.2.2 g)
        exact ⟨q, by omega, e⟩
      · exact ⟨N, Nat.le_refl _, by have := hE.2.1; omega⟩
    subst ej0 eje
    have hjj : j0 ≤ j := pos_le_iff hT h1 hj0 (by omega) hfa
    have h0e : j0 ≤ je := pos_le_iff hT h1 hj0 hje hE.1
    have hlet := line_letters hT h1 h2 hv h0e hje
    have hll := lineL_length hE.1 hE.2.1
    have hM : M = je - j0 := by
      have e := (hlet (je - j0) (by omega)).1
      rw [show j0 + (je - j0) = je by omega] at e
      rcases Nat.lt_trichotomy M (je - j0) with g | g | g
      · have e2 := (hlet M (by omega)).1
        have := pos_mono hT h1 (show j0 + M < je by omega) hje
        omega
      · exact g
      · have := n1 (je - j0) g
        omega
    have hkk : k = min j je - j0 := by
      by_cases g : j < je
      · rw [Nat.min_eq_left (by omega)]
        rcases Nat.lt_trichotomy k (j - j0) with q | q | q
        · have e := (hlet (k + 1) (by omega)).1
          have h3 := k2 (by omega)
          rw [← e] at h3
          have := pos_le_iff hT h1 (show j0 + (k + 1) ≤ N by omega) (show j ≤ N by omega)
          rcases Nat.eq_or_lt_of_le (show j0 + (k + 1) ≤ j by omega) with w | w
          · rw [w] at h3; omega
          · have := pos_mono hT h1 w (by omega); omega
        · exact q
        · have e := (hlet (j - j0 + 1) (by omega)).1
          have h3 := k1 (j - j0) q
          rw [← e, show j0 + (j - j0 + 1) = j + 1 by omega] at h3
          have := pos_step hT h1 hj
          omega
      · rw [Nat.min_eq_right (by omega)]
        rcases Nat.lt_or_ge k (je - j0) with q | q
        · have e := (hlet (k + 1) (by omega)).1
          have h3 := k2 (by omega)
          rw [← e] at h3
          have a1 : posL T (j0 + (k + 1)) ≤ posL T je := by
            rcases Nat.eq_or_lt_of_le (show j0 + (k + 1) ≤ je by omega) with w | w
            · rw [w]; exact Nat.le_refl _
            · exact Nat.le_of_lt (pos_mono hT h1 w hje)
          have a2 : posL T je ≤ posL T j := by
            rcases Nat.eq_or_lt_of_le (show je ≤ j by omega) with w | w
            · rw [w]; exact Nat.le_refl _
            · exact Nat.le_of_lt (pos_mono hT h1 w (by omega))
          omega
        · omega
    refine ⟨i, j0, je, rfl, hi, ef, hjj, h0e, hje, hE, hf0, hno, ?_⟩
    have hmn : j0 ≤ min j je := by omega
    have e := (hlet k (by omega)).2
    rw [show j0 + k = min j je by omega] at e
    omega

/-- A letter that is no line's end stands ahead of its line's end. -/
theorem stands_inside {T : List Nat} {N : Nat} (hT : ∀ x ∈ T, x < 256) (h1 : ∀ k, k < N → posL T k < T.length) {j : Nat} (hj : j < N) {ln un : Int} {i j0 je : Nat} (h : Stands T N j ln un i j0 je) (hne : runeAt T (posL T j) ≠ 10 ∧ runeAt T (posL T j) ≠ 13) : j < je := by
  obtain ⟨_, _, _, hjj, h0e, hje, hE, _, hno, _⟩ := h
  have hP := h1 j hj
  rcases Nat.lt_or_ge j je with g | g
  · exact g
  · exfalso
    have hle : posL T je ≤ posL T j := by
      rcases Nat.eq_or_lt_of_le g with w | w
      · rw [w]; exact Nat.le_refl _
      · exact Nat.le_of_lt (pos_mono hT h1 w (by omega))
    have hbe := hE.2.2.2 (by omega)
    have hf := hE.1
    have hrn : ∀ p, p < T.length → p = posL T j → ¬ (nth T p = 10 ∨ nth T p = 13) := fun p hp e q => by
      have ha := (rune_ascii hp (by omega)).1
      rw [e] at ha q
      omega
    by_cases e0 : posL T je = posL T j
    · exact hrn _ (by omega) e0 hbe
    · have hb := hno (posL T je + 1) (by omega) (by omega)
      rw [Nat.add_sub_cancel] at hb
      unfold brk at hb
      simp at hb
      have h13 : nth T (posL T je) = 13 := by omega
      obtain ⟨h10, hb2⟩ := hb
      obtain ⟨hl, hn⟩ := hb2 h13
      by_cases e1 : posL T je + 1 = posL T j
      · exact hrn _ hl e1 (.inl hn)
      · have hb3 := hno (posL T je + 2) (by omega) (by omega)
        rw [show posL T je + 2 - 1 = posL T je + 1 by omega] at hb3
        unfold brk at hb3
        simp [hn] at hb3

/-- The byte of its place is the letter's. -/
theorem stands_back {T : List Nat} {N : Nat} (hT : ∀ x ∈ T, x < 256) (h1 : ∀ k, k < N → posL T k < T.length) (h2 : posL T N = T.length) (hv : AllLet T N) {j : Nat} (hj : j < N) {ln un r : Int} {i j0 je : Nat} (h : Stands T N j ln un i j0 je) (hin : j < je) (ho : OffR T (linesL T) ln un r) : r = ((posL T j : Nat) : Int) := by
  obtain ⟨rfl, hi, ef, hjj, h0e, hje, hE, _, _, rfl⟩ := h
  rw [Nat.min_eq_left (by omega)] at ho
  have hfl : posL T j0 ≤ T.length := by have := hE.1; have := hE.2.1; omega
  rcases ho with ⟨h, _⟩ | ⟨_, h, _⟩ | ⟨i', f, en, M, e, hi', hc, hE', n1, n2, hI⟩
  · omega
  · omega
  · obtain rfl : i = i' := by omega
    rw [ef, clamp_in hfl] at hc
    obtain rfl : posL T j0 = f := by omega
    obtain rfl := isEnd_one hE hE'
    have hlet := line_letters hT h1 h2 hv h0e hje
    obtain ⟨e1, e2⟩ := hlet (j - j0) (by omega)
    rw [show j0 + (j - j0) = j by omega] at e1 e2
    have hu : ((unitsL T j : Nat) : Int) - ((unitsL T j0 : Nat) : Int) = ((unitsL (lineL T (posL T j0) (posL T je)) (j - j0) : Nat) : Int) := by omega
    rw [hu] at hI
    have hq : j - j0 < M := by
      rcases Nat.lt_or_ge (j - j0) M with g | g
      · exact g
      · exfalso
        have hll := lineL_length hE.1 hE.2.1
        have a := (hlet M (by omega)).1
        have b : posL T (j0 + M) ≤ posL T j := by
          rcases Nat.eq_or_lt_of_le (show j0 + M ≤ j by omega) with w | w
          · rw [w]; exact Nat.le_refl _
          · exact Nat.le_of_lt (pos_mono hT h1 w (by omega))
        have c := pos_mono hT h1 hin hje
        omega
    rcases hI with ⟨k, hk, a1, a2, rfl⟩ | ⟨a1, _⟩
    · have hkq : k = j - j0 := by
        rcases Nat.lt_trichotomy k (j - j0) with g | g | g
        · have := units_mono (T := lineL T (posL T j0) (posL T je)) (show k + 1 ≤ j - j0 by omega)
          omega
        · exact g
        · have h3 := a2 (j - j0) g
          have := units_lt (T := lineL T (posL T j0) (posL T je)) (show j - j0 < j - j0 + 1 by omega)
          omega
      rw [hkq, e1]
      omega
    · have h3 := a1 (j - j0) hq
      have := units_lt (T := lineL T (posL T j0) (posL T je)) (show j - j0 < j - j0 + 1 by omega)
      omega

/-- Places rise with the letters. -/
theorem stands_rise {T : List Nat} {N : Nat} (hT : ∀ x ∈ T, x < 256) (h1 : ∀ k, k < N → posL T k < T.length) {j : Nat} (hj : j + 1 < N) {ln un ln' un' : Int} {i j0 je i' j0' je' : Nat} (h : Stands T N j ln un i j0 je) (h' : Stands T N (j + 1) ln' un' i' j0' je') :
    ln ≤ ln' ∧ (ln = ln' → un ≤ un' ∧ (j + 1 < je' → un < un')) := by
  obtain ⟨rfl, hi, ef, hjj, h0e, hje, hE, hf0, _, rfl⟩ := h
  obtain ⟨rfl, hi', ef', hjj', h0e', hje', hE', hf0', hno', rfl⟩ := h'
  have hs := pos_step hT h1 (show j < N by omega)
  have hp0 : posL T j0 ≤ posL T j := by
    rcases Nat.eq_or_lt_of_le hjj with w | w
    · rw [w]; exact Nat.le_refl _
    · exact Nat.le_of_lt (pos_mono hT h1 w (by omega))
  have hii : i ≤ i' := by
    rcases Nat.lt_or_ge i' i with g | g
    · exfalso
      have hlt := line_rise hi' hi ef' ef g
      have hb := hno' (posL T j0) hlt (by omega)
      rcases hf0 with q | q
      · omega
      · rw [q] at hb; cases hb
    · exact g
  refine ⟨by omega, fun e => ?_⟩
  obtain rfl : i = i' := by omega
  have e0 : posL T j0 = posL T j0' := by omega
  obtain rfl := pos_inj hT h1 (by omega) (by omega) e0
  have ee := isEnd_one hE hE'
  obtain rfl := pos_inj hT h1 hje hje' ee
  have m1 := units_mono (T := T) (show min j je ≤ min (j + 1) je by omega)
  refine ⟨by omega, fun g => ?_⟩
  have m2 := units_lt (T := T) (show min j je < min (j + 1) je by omega)
  omega
theorem stands_first {T : List Nat} {N j : Nat} {ln un : Int} {i j0 je : Nat} (h : Stands T N j ln un i j0 je) : 0 ≤ ln ∧ 0 ≤ un ∧ un ≤ ((unitsL T j : Nat) : Int) := by
  obtain ⟨rfl, _, _, hjj, h0e, _, _, _, _, rfl⟩ := h
  have m1 := units_mono (T := T) (show j0 ≤ min j je by omega)
  have m2 := units_mono (T := T) (show min j je ≤ j by omega)
  omega

end Go.Proofs.YthhpfdjcggfhaaaDoor
