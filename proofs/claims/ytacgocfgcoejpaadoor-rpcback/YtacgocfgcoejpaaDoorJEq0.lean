/- Json: what plain leaves of a tree. -/
import Derived.Test.YtacgocfgcoejpaaDoorJPlain
namespace Go.Proofs.YtacgocfgcoejpaaDoor
set_option linter.unusedVariables false
set_option linter.unusedSimpArgs false
set_option maxRecDepth 100000
open Go Go.RowKit Go.Shelf Go.Lib

def sP (k : Int) (s : ByteArray) : ByteArray := if k = 3 ∨ k = 4 then s else ⟨#[]⟩
def kP (k : Int) (K : List ByteArray) : List ByteArray := if k = 6 then K else []
def lP (k : Int) (L : List JT) : List JT := if k = 5 ∨ k = 6 then L else []

theorem strs_nil {W : World} {S : Nat → Prop} : StrsS W S (.slice none 0 0) [] := ⟨none, 0, rfl, fun j hj => absurd hj (by simp)⟩
theorem plain_parts {W : World} {S : Nat → Prop} (k : Int) (s : ByteArray) {K : List ByteArray} {L : List JT} {ka la : Option Addr} {kc lc : Nat} (hK : StrsS W S (.slice ka K.length kc) K) :
    ∃ a1 c1 a2 c2, plainJ (k, s, .slice ka K.length kc, .slice la L.length lc) = (k, sP k s, .slice a1 (kP k K).length c1, .slice a2 (lP k L).length c2) ∧ StrsS W S (.slice a1 (kP k K).length c1) (kP k K) ∧ ∀ i, i < (lP k L).length → i < L.length ∧ lP k L = L ∧ a2 = la := by
  by_cases h3 : k = 3
  · subst h3
    exact ⟨none, 0, none, 0, by simp [plainJ, sP, kP, lP, nilV], strs_nil, fun i hi => by simp [lP] at hi⟩
  by_cases h4 : k = 4
  · subst h4
    exact ⟨none, 0, none, 0, by simp [plainJ, sP, kP, lP, nilV], strs_nil, fun i hi => by simp [lP] at hi⟩
  by_cases h5 : k = 5
  · subst h5
    exact ⟨none, 0, la, lc, by simp [plainJ, sP, kP, lP, nilV], strs_nil, fun i hi => ⟨by simpa [lP] using hi, by simp [lP], rfl⟩⟩
  by_cases h6 : k = 6
  · subst h6
    exact ⟨ka, kc, la, lc, by simp [plainJ, sP, kP, lP, nilV], by simpa [kP] using hK, fun i hi => ⟨by simpa [lP] using hi, by simp [lP], rfl⟩⟩
  · exact ⟨none, 0, none, 0, by simp [plainJ, sP, kP, lP, nilV, h3, h4, h5, h6], by simpa [kP, h6] using strs_nil, fun i hi => by simp [lP, h5, h6] at hi⟩

theorem eqJ_by {k k' : Int} {s s' : ByteArray} {K K' : List ByteArray} {L L' : List JT} : eqJ (.mk k s K L) (.mk k' s' K' L') = true ↔ k = k' ∧ sP k s = sP k' s' ∧ kP k K = kP k' K' ∧ eqJs (lP k L) (lP k' L') = true := by
  by_cases hk : k = k'
  rotate_left
  · rw [eqJ_kind hk]
    exact ⟨fun h => (by cases h), fun h => absurd h.1 hk⟩
  subst hk
  by_cases h3 : k = 3
  · subst h3
    rw [eqJ_text (.inl rfl)]
    simp [sP, kP, lP, eqJs]
  by_cases h4 : k = 4
  · subst h4
    rw [eqJ_text (.inr rfl)]
    simp [sP, kP, lP, eqJs]
  by_cases h5 : k = 5
  · subst h5
    rw [eqJ_five]
    simp [sP, kP, lP]
  by_cases h6 : k = 6
  · subst h6
    rw [eqJ_six]
    simp [sP, kP, lP]
  · rw [eqJ_plain h3 h4 h5 h6]
    simp [sP, kP, lP, h3, h4, h5, h6, eqJs]

end Go.Proofs.YtacgocfgcoejpaaDoor
