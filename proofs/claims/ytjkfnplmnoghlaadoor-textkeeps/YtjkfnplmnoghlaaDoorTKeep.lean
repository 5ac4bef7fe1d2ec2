/- A span that moved has the bytes that it had. -/
import Derived.Test.YtjkfnplmnoghlaaDoorTHelp
namespace Go.Proofs.YtjkfnplmnoghlaaDoor
set_option linter.unusedVariables false
set_option linter.unusedSimpArgs false
set_option maxRecDepth 100000
open Go Go.RowKit Go.Shelf Go.Lib

theorem mvL_snoc (D : List Ed) (d : Ed) (s : Int × Int) : mvL (D ++ [d]) s = (mvL D s).bind (mvStep d) := by
  induction D generalizing s with
  | nil =>
    show (match mvStep d s with | some s' => mvL [] s' | none => none) = mvStep d s
    cases mvStep d s <;> rfl
  | cons x l ih =>
    show (match mvStep x s with | some s' => mvL (l ++ [d]) s' | none => none) = (match mvStep x s with | some s' => mvL l s' | none => none).bind (mvStep d)
    cases mvStep x s with
    | none => rfl
    | some s' => exact ih s'

/-- The bytes of a span. -/
def cutL (T : List Nat) (f t : Nat) : List Nat := (T.drop f).take (t - f)
/-- A span within a text, with these bytes. -/
def SpanOf (T : List Nat) (s : Int × Int) (B : List Nat) : Prop := ∃ f t : Nat, s = ((f : Int), (t : Int)) ∧ f ≤ t ∧ t ≤ T.length ∧ cutL T f t = B

theorem step_span {T NT : List Nat} {x : Ch} {d : Ed} (hT : T.length ≤ 1048576) (hX : x.2.2.2.2.2.length ≤ 1000000) (h : StepR T x 0 NT d) {s s' : Int × Int} {B : List Nat} (hs : SpanOf T s B) (hm : mvStep d s = some s') : SpanOf NT s' B := by
  rcases h with ⟨_, e⟩ | ⟨_, F, G, hE, ⟨_, e⟩ | ⟨h1, _, rfl, rfl⟩⟩
  · exact absurd e (by decide)
  · exact absurd e (by decide)
  obtain ⟨f, t, rfl, hft, htT, rfl⟩ := hs
  obtain ⟨hFG, hGT⟩ := edit_in hE
  generalize x.2.2.2.2.2 = X at *
  have hlen : (T.take F ++ X ++ T.drop G).length = F + X.length + (T.length - G) := by simp; omega
  unfold mvStep at hm
  split at hm
  · rename_i hp
    simp [putsB] at hp
    cases hm
    refine ⟨f, t, rfl, hft, by rw [hlen]; omega, ?_⟩
    have : t - f = 0 := by omega
    simp [cutL, this]
  · split at hm
    · rename_i hle
      dsimp only at hle
      have hgr : growL ((F : Int), (G : Int), (X.length : Int)) = (X.length : Int) - ((G : Int) - (F : Int)) := by
        have e1 : wrap64 ((G : Int) - (F : Int)) = (G : Int) - (F : Int) := by unfold wrap64; omega
        unfold growL
        simp only [e1]
        unfold wrap64
        omega
      rw [hgr] at hm
      have e1 : wrap64 ((f : Int) + ((X.length : Int) - ((G : Int) - (F : Int)))) = ((f + X.length - (G - F) : Nat) : Int) := by unfold wrap64; omega
      have e2 : wrap64 ((t : Int) + ((X.length : Int) - ((G : Int) - (F : Int)))) = ((t + X.length - (G - F) : Nat) : Int) := by unfold wrap64; omega
      rw [e1, e2] at hm
      cases hm
      refine ⟨_, _, rfl, by omega, by rw [hlen]; omega, ?_⟩
      unfold cutL
      have hd : (T.take F ++ X ++ T.drop G).drop (f + X.length - (G - F)) = T.drop f := by
        rw [List.drop_append, List.drop_of_length_le (by simp; omega), List.nil_append, List.drop_drop]
        congr 1
        simp
        omega
      rw [hd]
      congr 1
      omega
    · split at hm
      · rename_i hge
        dsimp only at hge
        cases hm
        refine ⟨f, t, rfl, hft, by rw [hlen]; omega, ?_⟩
        unfold cutL
        rw [List.append_assoc, List.drop_append, List.take_append]
        have hk : (T.take F).length = F := by simp; omega
        rw [hk, show f - F = 0 by omega, List.drop_zero]
        have hz : t - f - ((T.take F).drop f).length = 0 := by simp; omega
        rw [hz, List.take_zero, List.append_nil, List.drop_take, List.take_take, show min (t - f) (F - f) = t - f by omega]
      · cases hm

theorem pre_span {T : List Nat} {L : List Ch} {k : Nat} {NT : List Nat} {D : List Ed} (hT : T.length ≤ 1048576) (hX : ∀ (j : Nat) (x : Ch), L[j]? = some x → x.2.2.2.2.2.length ≤ 1000000) (h : Pre T L k NT D) {s s' : Int × Int} {B : List Nat} (hs : SpanOf T s B) (hm : mvL D s = some s') : SpanOf NT s' B := by
  induction k generalizing NT D s' with
  | zero =>
    obtain ⟨rfl, rfl⟩ := h
    cases hm
    exact hs
  | succ k ih =>
    obtain ⟨T1, D1, x, d, p1, hx, s1, rfl⟩ := h
    rw [mvL_snoc] at hm
    cases hq : mvL D1 s with
    | none => rw [hq] at hm; cases hm
    | some s2 =>
      rw [hq] at hm
      exact step_span (pre_size hT p1) (hX k x hx) s1 (ih p1 hq) hm
theorem apply_span {T : List Nat} {L : List Ch} {NT : List Nat} {D : List Ed} (hT : T.length ≤ 1048576) (hX : ∀ (j : Nat) (x : Ch), L[j]? = some x → x.2.2.2.2.2.length ≤ 1000000) (h : ApplyR T L 0 NT D) {s s' : Int × Int} {B : List Nat} (hs : SpanOf T s B) (hm : mvL D s = some s') : SpanOf NT s' B := by
  rcases h with ⟨_, p⟩ | ⟨hr, _⟩
  · exact pre_span hT hX p hs hm
  · exact absurd rfl hr

end Go.Proofs.YtjkfnplmnoghlaaDoor
