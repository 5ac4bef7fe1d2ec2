/- What becomes of a text by a change, and by changes: as relations, each with one answer. -/
import Derived.Test.YthhpfdjcggfhaaaDoorTLaw
namespace Go.Proofs.YthhpfdjcggfhaaaDoor
set_option linter.unusedVariables false
set_option linter.unusedSimpArgs false
set_option maxRecDepth 100000
open Go Go.RowKit Go.Shelf Go.Lib

theorem end_one {T : List Nat} {f e e' : Nat} (h : IsEnd T f e) (h' : IsEnd T f e') : e = e' := by
  obtain ⟨a1, a2, a3, a4⟩ := h
  obtain ⟨b1, b2, b3, b4⟩ := h'
  rcases Nat.lt_trichotomy e e' with g | g | g
  · have h1 := a4 (by omega)
    have h2 := b3 e a1 g
    omega
  · exact g
  · have h1 := b4 (by omega)
    have h2 := a3 e' b1 g
    omega
theorem count_one {T : List Nat} {N N' : Nat} (h1 : ∀ k, k < N → posL T k < T.length) (h2 : posL T N = T.length) (g1 : ∀ k, k < N' → posL T k < T.length) (g2 : posL T N' = T.length) : N = N' := by
  rcases Nat.lt_trichotomy N N' with g | g | g
  · have := g1 N g; omega
  · exact g
  · have := h1 N' g; omega
theorem inline_one {LT : List Nat} {N f : Nat} {u r r' : Int} (h : InLine LT N f u r) (h' : InLine LT N f u r') : r = r' := by
  rcases h with ⟨k, hk, a1, a2, rfl⟩ | ⟨a1, rfl⟩ <;> rcases h' with ⟨k', hk', b1, b2, rfl⟩ | ⟨b1, rfl⟩
  · have : k = k' := by
      rcases Nat.lt_trichotomy k k' with g | g | g
      · have := b2 k g; omega
      · exact g
      · have := a2 k' g; omega
    rw [this]
  · have := b1 k hk; omega
  · have := a1 k' hk'; omega
  · rfl
theorem off_one {T : List Nat} {L : List Int} {ln u r r' : Int} (h : OffR T L ln u r) (h' : OffR T L ln u r') : r = r' := by
  rcases h with ⟨a, rfl⟩ | ⟨a0, a, rfl⟩ | ⟨i, f, en, N, rfl, hi, hc, hE, n1, n2, hI⟩ <;> rcases h' with ⟨b, rfl⟩ | ⟨b0, b, rfl⟩ | ⟨i', f', en', N', he, hi', hc', hE', n1', n2', hI'⟩
  all_goals first | rfl | omega | skip
  obtain rfl : i = i' := by omega
  obtain rfl : f = f' := by omega
  obtain rfl := end_one hE hE'
  obtain rfl := count_one n1 n2 n1' n2'
  exact inline_one hI hI'
/-- It lies within the text. -/
theorem off_in {T : List Nat} {L : List Int} {ln u r : Int} (h : OffR T L ln u r) : ∃ F : Nat, r = (F : Int) ∧ F ≤ T.length := by
  rcases h with ⟨a, rfl⟩ | ⟨a0, a, rfl⟩ | ⟨i, f, en, N, rfl, hi, hc, hE, n1, n2, hI⟩
  · exact ⟨0, rfl, Nat.zero_le _⟩
  · exact ⟨T.length, rfl, Nat.le_refl _⟩
  · obtain ⟨h1, h2, _, _⟩ := hE
    have hl := lineL_length (T := T) h1 h2
    rcases hI with ⟨k, hk, _, _, rfl⟩ | ⟨_, rfl⟩
    · have := n1 k hk
      exact ⟨f + posL (lineL T f en) k, by omega, by omega⟩
    · exact ⟨f + (lineL T f en).length, by omega, by omega⟩

/-- All its bytes are letters. -/
def ValidL (X : List Nat) : Prop := ∃ N, (∀ k, k < N → posL X k < X.length) ∧ posL X N = X.length ∧ ∀ k, k < N → runeAt X (posL X k) ≠ -1
theorem told_valid {T : List Nat} {N a : Nat} {e : Int} (h1 : ∀ k, k < N → posL T k < T.length) (h2 : posL T N = T.length) (h : Told T N a e) : (ValidL T ∧ e = 0) ∨ (¬ ValidL T ∧ e = 10) := by
  rcases h with ⟨k, hk, _, h3, _, he⟩ | ⟨h3, _, he⟩
  · refine .inr ⟨fun ⟨M, m1, m2, m3⟩ => ?_, he⟩
    obtain rfl := count_one h1 h2 m1 m2
    exact m3 k hk h3
  · exact .inl ⟨⟨N, h1, h2, h3⟩, he⟩

/-- The bytes that a change names. -/
def EditR (T : List Nat) (x : Ch) (F G : Nat) : Prop :=
  (x.1 = true ∧ ∃ f t : Int, OffR T (linesL T) x.2.1 x.2.2.1 f ∧ OffR T (linesL T) x.2.2.2.1 x.2.2.2.2.1 t ∧ (F : Int) = f ∧ (G : Int) = max f t) ∨ (x.1 = false ∧ F = 0 ∧ G = T.length)
theorem edit_one {T : List Nat} {x : Ch} {F G F' G' : Nat} (h : EditR T x F G) (h' : EditR T x F' G') : F = F' ∧ G = G' := by
  rcases h with ⟨a, f, t, hf, ht, e1, e2⟩ | ⟨a, rfl, rfl⟩ <;> rcases h' with ⟨b, f', t', hf', ht', e1', e2'⟩ | ⟨b, rfl, rfl⟩
  · obtain rfl := off_one hf hf'
    obtain rfl := off_one ht ht'
    omega
  · simp [a] at b
  · simp [a] at b
  · exact ⟨rfl, rfl⟩
theorem edit_in {T : List Nat} {x : Ch} {F G : Nat} (h : EditR T x F G) : F ≤ G ∧ G ≤ T.length := by
  rcases h with ⟨a, f, t, hf, ht, e1, e2⟩ | ⟨a, rfl, rfl⟩
  · obtain ⟨F', rfl, h1⟩ := off_in hf
    obtain ⟨G', rfl, h2⟩ := off_in ht
    omega
  · exact ⟨Nat.zero_le _, Nat.le_refl _⟩

/-- A text behind a change: an error, or the text and the edit. -/
def StepR (T : List Nat) (x : Ch) (r : Int) (NT : List Nat) (d : Ed) : Prop :=
  (¬ ValidL x.2.2.2.2.2 ∧ r = 10) ∨ (ValidL x.2.2.2.2.2 ∧ ∃ F G, EditR T x F G ∧
    ((T.length - (G - F) + x.2.2.2.2.2.length > 1048576 ∧ r = 3) ∨ (T.length - (G - F) + x.2.2.2.2.2.length ≤ 1048576 ∧ r = 0 ∧ NT = T.take F ++ x.2.2.2.2.2 ++ T.drop G ∧ d = ((F : Int), (G : Int), (x.2.2.2.2.2.length : Int)))))
theorem step_one {T : List Nat} {x : Ch} {r r' : Int} {NT NT' : List Nat} {d d' : Ed} (h : StepR T x r NT d) (h' : StepR T x r' NT' d') : r = r' ∧ (r = 0 → NT = NT' ∧ d = d') := by
  rcases h with ⟨a, rfl⟩ | ⟨a, F, G, hE, hI⟩ <;> rcases h' with ⟨b, rfl⟩ | ⟨b, F', G', hE', hI'⟩
  · exact ⟨rfl, fun e => by cases e⟩
  · exact absurd b a
  · exact absurd a b
  · obtain ⟨rfl, rfl⟩ := edit_one hE hE'
    rcases hI with ⟨a1, rfl⟩ | ⟨a1, rfl, rfl, rfl⟩ <;> rcases hI' with ⟨b1, rfl⟩ | ⟨b1, rfl, rfl, rfl⟩
    · exact ⟨rfl, fun e => by cases e⟩
    · omega
    · omega
    · exact ⟨rfl, fun _ => ⟨rfl, rfl⟩⟩
theorem step_size {T : List Nat} {x : Ch} {NT : List Nat} {d : Ed} (h : StepR T x 0 NT d) : NT.length ≤ 1048576 := by
  rcases h with ⟨_, e⟩ | ⟨_, F, G, hE, ⟨_, e⟩ | ⟨h1, _, rfl, _⟩⟩
  · cases e
  · cases e
  · have := edit_in hE
    simp
    omega
theorem step_small {T : List Nat} {x : Ch} {NT : List Nat} {d : Ed} (h : StepR T x 0 NT d) (hT : ∀ y ∈ T, y < 256) (hx : ChOk x) : ∀ y ∈ NT, y < 256 := by
  rcases h with ⟨_, e⟩ | ⟨_, F, G, hE, ⟨_, e⟩ | ⟨h1, _, rfl, _⟩⟩
  · cases e
  · cases e
  · intro y hy
    rcases List.mem_append.1 hy with hy | hy
    · rcases List.mem_append.1 hy with hy | hy
      · exact hT y (List.mem_of_mem_take hy)
      · exact hx.2.2 y hy
    · exact hT y (List.mem_of_mem_drop hy)

/-- The first k changes, all right: the text and the edits. -/
def Pre (T : List Nat) (L : List Ch) : Nat → List Nat → List Ed → Prop
  | 0, NT, D => NT = T ∧ D = []
  | k + 1, NT, D => ∃ T' D' x d, Pre T L k T' D' ∧ L[k]? = some x ∧ StepR T' x 0 NT d ∧ D = D' ++ [d]
theorem pre_one {T : List Nat} {L : List Ch} {k : Nat} {NT NT' : List Nat} {D D' : List Ed} (h : Pre T L k NT D) (h' : Pre T L k NT' D') : NT = NT' ∧ D = D' := by
  induction k generalizing NT NT' D D' with
  | zero =>
    obtain ⟨rfl, rfl⟩ := h
    obtain ⟨rfl, rfl⟩ := h'
    exact ⟨rfl, rfl⟩
  | succ k ih =>
    obtain ⟨T1, D1, x, d, p1, hx, s1, rfl⟩ := h
    obtain ⟨T2, D2, y, d2, p2, hy, s2, rfl⟩ := h'
    obtain ⟨rfl, rfl⟩ := ih p1 p2
    obtain rfl := Option.some.inj (hx.symm.trans hy)
    obtain ⟨_, h3⟩ := step_one s1 s2
    obtain ⟨rfl, rfl⟩ := h3 rfl
    exact ⟨rfl, rfl⟩
theorem pre_length {T : List Nat} {L : List Ch} {k : Nat} {NT : List Nat} {D : List Ed} (h : Pre T L k NT D) : D.length = k := by
  induction k generalizing NT D with
  | zero => obtain ⟨_, rfl⟩ := h; rfl
  | succ k ih =>
    obtain ⟨T1, D1, x, d, p1, hx, s1, rfl⟩ := h
    simp [ih p1]
theorem pre_size {T : List Nat} {L : List Ch} {k : Nat} {NT : List Nat} {D : List Ed} (hT : T.length ≤ 1048576) (h : Pre T L k NT D) : NT.length ≤ 1048576 := by
  cases k with
  | zero => obtain ⟨rfl, _⟩ := h; exact hT
  | succ k => obtain ⟨T1, D1, x, d, p1, hx, s1, rfl⟩ := h; exact step_size s1
theorem pre_small {T : List Nat} {L : List Ch} {k : Nat} {NT : List Nat} {D : List Ed} (hT : ∀ y ∈ T, y < 256) (hL : ∀ (j : Nat) (x : Ch), L[j]? = some x → ChOk x) (h : Pre T L k NT D) : ∀ y ∈ NT, y < 256 := by
  induction k generalizing NT D with
  | zero => obtain ⟨rfl, _⟩ := h; exact hT
  | succ k ih =>
    obtain ⟨T1, D1, x, d, p1, hx, s1, rfl⟩ := h
    exact step_small s1 (ih p1) (hL k x hx)

/-- All changes, one behind the other: the number of the first error, or the text and the edits. -/
def ApplyR (T : List Nat) (L : List Ch) (r : Int) (NT : List Nat) (D : List Ed) : Prop :=
  (r = 0 ∧ Pre T L L.length NT D) ∨ (r ≠ 0 ∧ ∃ k T' D' x NT' d', Pre T L k T' D' ∧ L[k]? = some x ∧ StepR T' x r NT' d')
theorem pre_down {T : List Nat} {L : List Ch} {k j : Nat} {NT : List Nat} {D : List Ed} (h : Pre T L k NT D) (hj : j < k) : ∃ T' D' x NT' d, Pre T L j T' D' ∧ L[j]? = some x ∧ StepR T' x 0 NT' d := by
  induction k generalizing NT D with
  | zero => omega
  | succ k ih =>
    obtain ⟨T1, D1, x, d, p1, hx, s1, rfl⟩ := h
    rcases Nat.lt_or_ge j k with g | g
    · exact ih p1 g
    · obtain rfl : j = k := by omega
      exact ⟨T1, D1, x, NT, d, p1, hx, s1⟩
theorem apply_one {T : List Nat} {L : List Ch} {r r' : Int} {NT NT' : List Nat} {D D' : List Ed} (h : ApplyR T L r NT D) (h' : ApplyR T L r' NT' D') : r = r' ∧ (r = 0 → NT = NT' ∧ D = D') := by
  have key : ∀ {k : Nat} {T1 : List Nat} {D1 : List Ed} {x : Ch} {r : Int} {N1 : List Nat} {d1 : Ed} {m : Nat} {N2 : List Nat} {D2 : List Ed}, r ≠ 0 → Pre T L k T1 D1 → L[k]? = some x → StepR T1 x r N1 d1 → Pre T L m N2 D2 → m ≤ k := by
    intro k T1 D1 x r N1 d1 m N2 D2 hr p hx s q
    refine Nat.le_of_not_lt fun g => ?_
    obtain ⟨T3, D3, y, N3, d3, p3, hy, s3⟩ := pre_down q g
    obtain ⟨rfl, rfl⟩ := pre_one p p3
    obtain rfl := Option.some.inj (hx.symm.trans hy)
    exact hr (step_one s s3).1
  rcases h with ⟨rfl, p⟩ | ⟨hr, k, T1, D1, x, N1, d1, p, hx, s⟩ <;> rcases h' with ⟨rfl, p'⟩ | ⟨hr', k', T2, D2, x', N2, d2, p', hx', s'⟩
  · exact ⟨rfl, fun _ => pre_one p p'⟩
  · have := key hr' p' hx' s' p
    have := (List.getElem?_eq_some_iff.1 hx').1
    omega
  · have := key hr p hx s p'
    have := (List.getElem?_eq_some_iff.1 hx).1
    omega
  · have h1 := key hr p hx s p'
    have h2 := key hr' p' hx' s' p
    obtain rfl : k = k' := by omega
    obtain ⟨rfl, rfl⟩ := pre_one p p'
    obtain rfl := Option.some.inj (hx.symm.trans hx')
    exact ⟨(step_one s s').1, fun e => absurd e hr⟩

end Go.Proofs.YthhpfdjcggfhaaaDoor
