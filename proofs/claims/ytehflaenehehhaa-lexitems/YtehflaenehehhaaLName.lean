/- Is a text a name, as lex tells it. -/
import Derived.Test.YtehflaenehehhaaLTok
import Derived.Laws.IdiomStrings
namespace Go.Proofs.Ytehflaenehehhaa
set_option linter.unusedVariables false
set_option linter.unusedSimpArgs false
set_option maxRecDepth 100000
open Go Go.RowKit Go.Shelf Go.Lib

/-- The bytes of a text, as numbers. -/
def natsOf (s : ByteArray) : List Nat := s.data.toList.map UInt8.toNat
theorem natsOf_length (s : ByteArray) : (natsOf s).length = s.size := by
  unfold natsOf
  rw [List.length_map, Array.length_toList]
  rfl
theorem natsOf_small (s : ByteArray) : ∀ x ∈ natsOf s, x < 256 := by
  intro x hx
  unfold natsOf at hx
  obtain ⟨b, _, rfl⟩ := List.mem_map.1 hx
  exact b.toNat_lt
theorem natsOf_nth (s : ByteArray) {j : Nat} (hj : j < s.data.size) : nth (natsOf s) j = s.data[j].toNat := by
  unfold nth natsOf
  rw [List.getElem?_map, Array.getElem?_toList, Array.getElem?_eq_getElem hj]
  rfl
/-- Is it a name? -/
def isN (s : ByteArray) : Bool := decide (1 ≤ s.size) && decide (s.size ≤ 24) && decide ((firstL (natsOf s)).1 = 1) && decide ((firstL (natsOf s)).2 = s.size)

theorem byts_row (w : World) (s : ByteArray) (cap : Nat) (fr : Nat × Nat) : Byts (w.alloc (.cells (bytesRow s cap) 5 fr)) (.slice (some ⟨w.heap.size, 0, none⟩) s.size cap) (natsOf s) := by
  refine ⟨some ⟨w.heap.size, 0, none⟩, cap, by rw [natsOf_length], natsOf_small s, fun j hj => ⟨w.heap.size, 0, rfl, ?_⟩⟩
  rw [natsOf_length] at hj
  have hj' : j < s.data.size := hj
  rw [Nat.zero_add, World.cell?_alloc_mark, bytesRow_at s cap j hj', natsOf_nth s hj']

set_option maxHeartbeats 4000000 in
theorem isName_calls (w : World) (s : ByteArray) :
    Calls Try.prog 18 #[.string s] w fun e w' => e = .returned (.bool (isN s)) ∧ Below w.heap.size w w' := by
  by_cases h0 : s.size = 0
  · have e : isN s = false := by unfold isN; simp [h0]
    rw [e]
    have e0 : s = ⟨#[]⟩ := by
      have h3 : s.data.size = 0 := h0
      cases s with
      | mk d => simp at h3; rw [h3]
    subst e0
    clear h0 e
    go_enter Try.func18, Try.ntmps18
    go_wp2
    go_ret
    exact ⟨rfl, Below.refl _ _⟩
  have g0 : (s.toList == ([] : List UInt8)) = false := by
    rw [lit_list]
    refine beq_eq_false_iff_ne.2 (fun k => h0 ?_)
    have := congrArg List.length k
    simpa using this
  by_cases h1 : 24 < s.size
  · have e : isN s = false := by unfold isN; simp [show ¬ s.size ≤ 24 by omega]
    rw [e]
    have d1 : (s.size : Int) > 24 := by omega
    clear e h0 h1
    go_enter Try.func18, Try.ntmps18
    go_wp2
    go_ret
    exact ⟨rfl, Below.refl _ _⟩
  have d1 : ¬ (s.size : Int) > 24 := by omega
  have hcv := run_bytes_of_string (P := Try.prog) w 9 22 5 s Try.underlying9 Try.underlying22 Try.underlying5
  have hby := byts_row w.drew s (grownCap w s.size 0 5) ((bytesRow s (grownCap w s.size 0 5)).size, (bytesRow s (grownCap w s.size 0 5)).size + 1)
  have hcap : s.size ≤ grownCap w s.size 0 5 := grownCap_ge _ _ _ _
  have hb1 : Below w.heap.size w (w.drew.alloc (.cells (bytesRow s (grownCap w s.size 0 5)) 5 ((bytesRow s (grownCap w s.size 0 5)).size, (bytesRow s (grownCap w s.size 0 5)).size + 1))) := (Below.refl _ w).drew.alloc (Nat.le_refl _) _
  generalize w.drew.alloc (.cells (bytesRow s (grownCap w s.size 0 5)) 5 ((bytesRow s (grownCap w s.size 0 5)).size, (bytesRow s (grownCap w s.size 0 5)).size + 1)) = wA at *
  generalize grownCap w s.size 0 5 = cap at *
  have hl := natsOf_length s
  have HF := hide (firstPiece_calls wA w.heap.size 0 cap (natsOf s) (by rw [hl]; exact hby) (by omega) (by omega) (by omega))
  rw [hl] at HF
  have HB := hide hb1
  have E : isN s = (decide ((firstL (natsOf s)).1 = 1) && decide ((firstL (natsOf s)).2 = s.size)) := by
    unfold isN
    simp [show 1 ≤ s.size by omega, show s.size ≤ 24 by omega]
  rw [E]
  generalize (firstL (natsOf s)).1 = k at *
  generalize (firstL (natsOf s)).2 = n at *
  clear hby hb1 hl E hcap
  by_cases g1 : k = 1
  · subst g1
    have d2 : ((n : Int) == (s.size : Int)) = decide (n = s.size) := by
      by_cases g : n = s.size
      · rw [g]; simp
      · rw [decide_eq_false g]; exact beq_eq_false_iff_ne.2 (by omega)
    have D2 := hide d2
    clear d2
    go_enter Try.func18, Try.ntmps18
    go_wp2_with fail
    refine HF.out.mono ?_
    rintro e w1 ⟨rfl, hb⟩
    have HB2 := hide (bafter HB.out hb (Nat.le_refl _))
    clear hb
    go_wp2
    go_ret
    exact ⟨by rw [← D2.out]; rfl, HB2.out⟩
  · have e1 : (k == 1) = false := beq_eq_false_iff_ne.2 g1
    rw [decide_eq_false g1, Bool.false_and]
    clear g1
    go_enter Try.func18, Try.ntmps18
    go_wp2_with fail
    refine HF.out.mono ?_
    rintro e w1 ⟨rfl, hb⟩
    have HB2 := hide (bafter HB.out hb (Nat.le_refl _))
    clear hb
    go_wp2
    go_ret
    exact ⟨rfl, HB2.out⟩

end Go.Proofs.Ytehflaenehehhaa
