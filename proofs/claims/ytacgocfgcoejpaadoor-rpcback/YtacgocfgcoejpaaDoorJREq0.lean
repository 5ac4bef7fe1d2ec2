/- Json: whether two trees are the same. -/
import Derived.Test.YtacgocfgcoejpaaDoorJFew
namespace Go.Proofs.YtacgocfgcoejpaaDoor
set_option linter.unusedVariables false
set_option linter.unusedSimpArgs false
set_option maxRecDepth 100000
open Go Go.RowKit Go.Shelf Go.Lib

mutual
/-- Are two trees the same? -/
def eqJ : JT → JT → Bool
  | .mk k s K L, .mk k' s' K' L' =>
    if k ≠ k' then false
    else if k = 3 ∨ k = 4 then decide (s = s')
    else if k = 5 then eqJs L L'
    else if k = 6 then decide (K = K') && eqJs L L'
    else true
def eqJs : List JT → List JT → Bool
  | [], [] => true
  | a :: l, b :: m => eqJ a b && eqJs l m
  | _, _ => false
end

theorem eqJs_iff : ∀ (L M : List JT), eqJs L M = true ↔ L.length = M.length ∧ ∀ (i : Nat) (a b : JT), L[i]? = some a → M[i]? = some b → eqJ a b = true
  | [], [] => by simp [eqJs]
  | [], b :: m => by simp [eqJs]
  | a :: l, [] => by simp [eqJs]
  | a :: l, b :: m => by
    rw [eqJs, Bool.and_eq_true, eqJs_iff l m]
    constructor
    · rintro ⟨h1, h2, h3⟩
      refine ⟨by simp [h2], fun i x y hx hy => ?_⟩
      cases i with
      | zero => simp at hx hy; subst hx hy; exact h1
      | succ i => exact h3 i x y (by simpa using hx) (by simpa using hy)
    · rintro ⟨h1, h2⟩
      exact ⟨h2 0 a b rfl rfl, by simpa using h1, fun i x y hx hy => h2 (i + 1) x y (by simpa using hx) (by simpa using hy)⟩
theorem eqJ_kind {k k' : Int} {s s' : ByteArray} {K K' : List ByteArray} {L L' : List JT} (h : k ≠ k') : eqJ (.mk k s K L) (.mk k' s' K' L') = false := by rw [eqJ, if_pos h]
theorem eqJ_text {k : Int} {s s' : ByteArray} {K K' : List ByteArray} {L L' : List JT} (h : k = 3 ∨ k = 4) : eqJ (.mk k s K L) (.mk k s' K' L') = decide (s = s') := by rw [eqJ, if_neg (by simp), if_pos h]
theorem eqJ_plain {k : Int} {s s' : ByteArray} {K K' : List ByteArray} {L L' : List JT} (h3 : k ≠ 3) (h4 : k ≠ 4) (h5 : k ≠ 5) (h6 : k ≠ 6) : eqJ (.mk k s K L) (.mk k s' K' L') = true := by rw [eqJ, if_neg (by simp), if_neg (by omega), if_neg h5, if_neg h6]
theorem eqJ_five {s s' : ByteArray} {K K' : List ByteArray} {L L' : List JT} : eqJ (.mk 5 s K L) (.mk 5 s' K' L') = eqJs L L' := by rw [eqJ, if_neg (by simp), if_neg (by omega), if_pos rfl]
theorem eqJ_six {s s' : ByteArray} {K K' : List ByteArray} {L L' : List JT} : eqJ (.mk 6 s K L) (.mk 6 s' K' L') = (decide (K = K') && eqJs L L') := by rw [eqJ, if_neg (by simp), if_neg (by omega), if_neg (by omega), if_pos rfl]
/-- What decides of two that have parts. -/
theorem eqJ_parts {k : Int} (h : k = 5 ∨ k = 6) {s s' : ByteArray} {K K' : List ByteArray} {L L' : List JT} : eqJ (.mk k s K L) (.mk k s' K' L') = true ↔ (k = 6 → K = K') ∧ L.length = L'.length ∧ ∀ (i : Nat) (a b : JT), L[i]? = some a → L'[i]? = some b → eqJ a b = true := by
  rcases h with rfl | rfl
  · rw [eqJ_five, eqJs_iff]
    exact ⟨fun h => ⟨fun e => absurd e (by omega), h⟩, fun h => h.2⟩
  · rw [eqJ_six, Bool.and_eq_true, eqJs_iff, decide_eq_true_iff]
    exact ⟨fun h => ⟨fun _ => h.1, h.2⟩, fun h => ⟨h.1 rfl, h.2⟩⟩
/-- Rows of strings: the same, or other somewhere. -/
theorem keys_same {K K' : List ByteArray} (h : K.length = K'.length) (hq : ∀ j, j < K.length → nthS K j = nthS K' j) : K = K' := by
  apply List.ext_getElem h
  intro i h1 h2
  have := hq i h1
  simpa [nthS, h1, h2] using this

end Go.Proofs.YtacgocfgcoejpaaDoor
