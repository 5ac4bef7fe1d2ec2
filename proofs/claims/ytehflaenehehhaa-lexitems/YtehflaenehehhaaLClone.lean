/- lex.Items: an iterator over a copy of the bytes. -/
import Derived.Test.YtehflaenehehhaaLItems
import Derived.Test.YtehflaenehehhaaShelf
namespace Go.Proofs.Ytehflaenehehhaa
set_option linter.unusedVariables false
set_option linter.unusedSimpArgs false
set_option maxRecDepth 100000
open Go Go.RowKit Go.Shelf Go.Lib

theorem own_byts {n₀ : Nat} {W : World} {v : Value} {T : List Nat} (hT : ∀ x ∈ T, x < 256) (h : W.ownsRow n₀ 5 1 v T.length (T.map (fun z : Nat => Value.int .u8 (z : Int)))) : ∃ ao cap, v = .slice ao T.length cap ∧ Byts W (.slice ao T.length cap) T ∧ T.length ≤ cap := by
  rcases id h.2 with ⟨rfl, h0⟩ | ⟨g, cap, cur, rfl, hg, hh, hn, hm, hc, ht⟩
  · obtain rfl : T = [] := List.length_eq_zero_iff.1 h0
    exact ⟨none, 0, rfl, ⟨none, 0, rfl, hT, fun j hj => by simp at hj⟩, Nat.le_refl _⟩
  · refine ⟨some ⟨g, 0, none⟩, cap, rfl, ⟨some ⟨g, 0, none⟩, cap, rfl, hT, fun j hj => ⟨g, 0, rfl, ?_⟩⟩, hn⟩
    have := World.ownsRow.cellAt h j (by omega)
    rw [Nat.zero_add, this]
    simp [nth, hj]

theorem clone_calls (w : World) (ao : Option Addr) (cap : Nat) (T : List Nat) (h : Byts w (.slice ao T.length cap) T) (hlen : T.length ≤ 1000000000) :
    Calls Try.prog 26 #[.slice ao T.length cap] w fun e w' => ∃ ao' cap', e = .returned (.slice ao' T.length cap') ∧ Byts w' (.slice ao' T.length cap') T ∧ T.length ≤ cap' ∧ Below w.heap.size w w' := by
  cases ao with
  | none =>
    have hT0 : T = [] := by
      cases T with
      | nil => rfl
      | cons x l =>
        obtain ⟨_, _, e, _, hc⟩ := h
        cases e
        obtain ⟨_, _, e, _⟩ := hc 0 (by simp)
        cases e
    subst hT0
    refine (Try.bytes_Clone_nil 0 cap w).mono ?_
    rintro e w' ⟨rfl, rfl⟩
    exact ⟨none, 0, rfl, ⟨none, 0, rfl, fun x hx => by simp at hx, fun j hj => by simp at hj⟩, Nat.le_refl _, Below.refl _ _⟩
  | some ad =>
    refine (Try.bytes_Clone_at ad T.length cap (T.map (fun z : Nat => (z : Int))) w (by simp) (by omega) (fun i hi => ?_)).mono ?_
    · obtain ⟨_, _, e, _, hc⟩ := h
      cases e
      obtain ⟨b, off, e, hci⟩ := hc i hi
      cases e
      have ha : (⟨b, off, none⟩ : Addr).add i = ⟨b, off + i, none⟩ := by
        unfold Addr.add
        split
        · rename_i h0; simp [h0]
        · rfl
      rw [ha, hci]
      simp [nth, hi]
    · rintro e w' ⟨v', rfl, hown, hne, hb⟩
      rw [List.map_map] at hown
      obtain ⟨ao', cap', rfl, hB, hc⟩ := own_byts h.small hown
      exact ⟨ao', cap', rfl, hB, hc, hb⟩

set_option maxHeartbeats 2000000 in
theorem items_calls (w : World) (ao : Option Addr) (cap : Nat) (T : List Nat) (h : Byts w (.slice ao T.length cap) T) (hlen : T.length ≤ 1000000000) :
    Calls Try.prog 13 #[.slice ao T.length cap] w fun e w' => ∃ (ao' : Option Addr) (cap' : Nat), e = .returned (.func (.func 27) #[] #[.pointer (some ⟨w.heap.size, 0, none⟩)]) ∧ PieceKnow w.heap.size ao' cap' T w' ∧ T.length ≤ cap' ∧ Below w.heap.size w w' := by
  have kA := bel w (.cells #[.slice ao T.length cap] 22)
  have bA := Boxed.new w 22 (.slice ao T.length cap)
  have HC := hide (clone_calls (w.alloc (.cells #[.slice ao T.length cap] 22)) ao cap T (h.below kA) hlen)
  have HK := hide kA
  have HBX := hide bA
  clear h kA bA
  go_enter Try.func13, Try.ntmps13
  go_wp2_with fail
  refine HC.out.mono ?_
  rintro e w1 ⟨ao', cap', rfl, hB, hc, hb⟩
  have b1 := boxed_below HBX.out hb
  have c1 := b1.cell
  have f1 := b1.frozen
  have hb1 := bafter HK.out hb (Nat.le_refl _)
  have hby : Byts (w1.setCell ⟨w.heap.size, 0, none⟩ (.slice ao' T.length cap')) (.slice ao' T.length cap') T := by
    obtain ⟨ao2, c2, e, hs, hcs⟩ := hB
    cases e
    refine ⟨ao', cap', rfl, hs, fun j hj => ?_⟩
    obtain ⟨b, off, rfl, hcc⟩ := hcs j hj
    refine ⟨b, off, rfl, ?_⟩
    have hne : b ≠ w.heap.size := by
      intro e
      subst e
      have : w1.cell? ⟨w.heap.size, off + j, none⟩ = some (.int .u8 ((nth T j : Nat) : Int)) := hcc
      rw [World.cell?, show w1.heap[w.heap.size]? = _ from b1] at this
      simp at this
      rcases hoj : off + j with _ | n
      · rw [hoj] at this; simp at this
      · rw [hoj] at this; simp at this
    exact (World.cell?_of_block (w := w1) (a := ⟨b, off + j, none⟩) (heap_setCell_other w1 ⟨w.heap.size, 0, none⟩ b _ hne)).trans hcc
  have HF := hide (And.intro (And.intro (b1.set (.slice ao' T.length cap')).cell hby) (And.intro hc (hb1.setCell (p := ⟨w.heap.size, 0, none⟩) (Nat.le_refl _) (.slice ao' T.length cap'))))
  clear hB hc hb b1 hb1 hby HK HBX
  go_wp2
  go_ret
  exact ⟨ao', cap', rfl, HF.out.1, HF.out.2.1, HF.out.2.2⟩

end Go.Proofs.Ytehflaenehehhaa
