/- Frame: a header that was written is read. -/
import Derived.Test.YtnflbplhokodjaaDoorFPure
namespace Go.Proofs.YtnflbplhokodjaaDoor
set_option linter.unusedVariables false
set_option linter.unusedSimpArgs false

theorem feed_line (h : Hd) (l : List Nat) (hl : ∀ c ∈ l, c ≠ 10) (hs : h.size + l.length ≤ 4096) : feedL (.head h) l = (.head { h with size := h.size + l.length, line := h.line ++ l }, []) := by
  induction l generalizing h with
  | nil => simp [feedL]
  | cons c l ih =>
    have h1 : h.size + (l.length + 1) ≤ 4096 := hs
    have hc : c ≠ 10 := hl c (by simp)
    have ha : addL h c = (.opn, { h with size := h.size + 1, line := h.line ++ [c] }) := by
      unfold addL
      rw [if_neg (by omega), if_pos hc]
    have e : stepF (.head h) c = (.head { h with size := h.size + 1, line := h.line ++ [c] }, []) := by
      show (match addL h c with
        | (.opn, h') => (St.head h', [])
        | (.whole, h') => beginL h'.length
        | (.none, _) => (.nothing, [(3, [])])) = _
      rw [ha]
    simp only [feedL, e]
    rw [ih _ (fun x hx => hl x (by simp [hx])) (by show h.size + 1 + l.length ≤ 4096; omega)]
    simp
    omega

/-- Digits alone. -/
def Digs (D : List Nat) : Prop := ∀ c ∈ D, 48 ≤ c ∧ c ≤ 57
theorem digs_keep {D : List Nat} (h : Digs D) : D.dropWhile blankF = D := by
  cases D with
  | nil => rfl
  | cons c l =>
    have := h c (by simp)
    have e : blankF c = false := by
      unfold blankF
      simp
      omega
    simp [List.dropWhile, e]
theorem digs_rev {D : List Nat} (h : Digs D) : Digs D.reverse := fun c hc => h c (by simpa using hc)
theorem trim_digs {D : List Nat} (h : Digs D) : trimF (32 :: D) = D := by
  unfold trimF
  have e : (32 :: D).dropWhile blankF = D.dropWhile blankF := by simp [List.dropWhile, blankF]
  rw [e, digs_keep h, digs_keep (digs_rev h), List.reverse_reverse]
/-- 'Content-Length' -/
def capName : List Nat := [67, 111, 110, 116, 101, 110, 116, 45, 76, 101, 110, 103, 116, 104]
theorem end_told {h : Hd} {D : List Nat} {n : Nat} (hD : Digs D) (h1 : 1 ≤ D.length) (h2 : D.length ≤ 10) (hn : numF 0 D = some n) (ht : h.told = false) : endLineL h (capName ++ 58 :: 32 :: D) = (.opn, { h with told := true, length := n }) := by
  have e1 : (capName ++ 58 :: 32 :: D).takeWhile (· ≠ 58) = capName := by simp [capName, List.takeWhile]
  have e2 : capName.length = 14 := rfl
  have e3 : (capName ++ 58 :: 32 :: D).length = 16 + D.length := by simp [capName]; omega
  have e4 : (capName ++ 58 :: 32 :: D).drop (capName.length + 1) = 32 :: D := by simp [capName]
  have e5 : isLenL capName = true := by decide
  have e6 : lengthL (32 :: D) = some n := by
    unfold lengthL
    rw [trim_digs hD, if_neg (by omega), hn]
  unfold endLineL
  rw [if_neg (by omega)]
  simp only [e1, e4, e5, e6, ht]
  rw [if_neg (by omega)]
  simp

/-- What Write writes ahead of a body: a header with these digits. -/
def headL (D : List Nat) : List Nat := capName ++ 58 :: 32 :: D ++ [13, 10, 13, 10]
theorem feed_head {D : List Nat} {n : Nat} (hD : Digs D) (h1 : 1 ≤ D.length) (h2 : D.length ≤ 10) (hn : numF 0 D = some n) : feedL (.head hd0) (headL D) = beginL n := by
  obtain ⟨L, hL⟩ : ∃ L, capName ++ 58 :: 32 :: D = L := ⟨_, rfl⟩
  have hLl : L.length = 16 + D.length := by rw [← hL]; simp [capName]; omega
  have hno : ∀ c ∈ L ++ [13], c ≠ 10 := fun c hc => by
    rw [← hL] at hc
    simp [capName] at hc
    rcases hc with q | q | q | q | q | q | q | q | q | q | q | q | q | q | q | q | q | q
    all_goals first
      | omega
      | (have := hD c q; omega)
  have e : headL D = (L ++ [13]) ++ ([10] ++ ([13] ++ [10])) := by
    unfold headL
    rw [hL]
    simp
  have hd : hd0.size = 0 ∧ hd0.line = [] ∧ hd0.told = false := ⟨rfl, rfl, rfl⟩
  have s1 : feedL (.head hd0) (L ++ [13]) = (.head ⟨L.length + 1, L ++ [13], false, 0⟩, []) := by
    rw [feed_line hd0 (L ++ [13]) hno (by show 0 + _ ≤ 4096; simp; omega)]
    simp [hd0]
  have a2 : addL ⟨L.length + 1, L ++ [13], false, 0⟩ 10 = (.opn, ⟨L.length + 1 + 1, [], true, n⟩) := by
    unfold addL
    rw [if_neg (by show ¬ 4096 < L.length + 1 + 1; omega), if_neg (by decide), if_pos (by simp)]
    simp only [List.dropLast_concat]
    rw [← hL, end_told hD h1 h2 hn rfl]
  have s2 : stepF (.head ⟨L.length + 1, L ++ [13], false, 0⟩) 10 = (.head ⟨L.length + 1 + 1, [], true, n⟩, []) := by
    show (match addL ⟨L.length + 1, L ++ [13], false, 0⟩ 10 with
      | (.opn, h') => (St.head h', [])
      | (.whole, h') => beginL h'.length
      | (.none, _) => (.nothing, [(3, [])])) = _
    rw [a2]
  have s3 : feedL (.head ⟨L.length + 1 + 1, [], true, n⟩) [13] = (.head ⟨L.length + 1 + 1 + 1, [13], true, n⟩, []) := by
    rw [feed_line _ [13] (by decide) (by show L.length + 1 + 1 + 1 ≤ 4096; omega)]
    rfl
  have a4 : addL ⟨L.length + 1 + 1 + 1, [13], true, n⟩ 10 = (.whole, ⟨L.length + 1 + 1 + 1 + 1, [], true, n⟩) := by
    unfold addL
    rw [if_neg (by show ¬ 4096 < L.length + 1 + 1 + 1 + 1; omega), if_neg (by decide), if_pos (by rfl)]
    rfl
  have s4 : stepF (.head ⟨L.length + 1 + 1 + 1, [13], true, n⟩) 10 = beginL n := by
    show (match addL ⟨L.length + 1 + 1 + 1, [13], true, n⟩ 10 with
      | (.opn, h') => (St.head h', [])
      | (.whole, h') => beginL h'.length
      | (.none, _) => (.nothing, [(3, [])])) = _
    rw [a4]
  rw [e, feed_app, s1]
  simp only
  rw [feed_app, feed_one, s2]
  simp only
  rw [feed_app, s3]
  simp only
  rw [feed_one, s4]
  simp
/-- A message that was written is read, and no more. -/
theorem feed_written {D B : List Nat} (hD : Digs D) (h1 : 1 ≤ D.length) (h2 : D.length ≤ 10) (hn : numF 0 D = some B.length) (hB : B.length ≤ 16777216) : feedL (.head hd0) (headL D ++ B) = (.head hd0, [(1, B)]) := by
  rw [feed_app, feed_head hD h1 h2 hn]
  unfold beginL
  by_cases h0 : B.length = 0
  · obtain rfl : B = [] := List.length_eq_zero_iff.1 h0
    simp [feedL]
  · rw [if_neg h0, if_neg (by omega)]
    simp only
    rw [feed_last B.length [] B rfl (by omega)]
    simp

end Go.Proofs.YtnflbplhokodjaaDoor
