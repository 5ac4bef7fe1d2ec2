/- utf.Letters: an iterator over a copy of the bytes. -/
import Derived.Test.YtchpnbcagbjnnaaDoorUEnc2
import Derived.Test.YtchpnbcagbjnnaaDoorUOff
namespace Go.Proofs.YtchpnbcagbjnnaaDoor
set_option linter.unusedVariables false
set_option linter.unusedSimpArgs false
open Go Go.RowKit Go.Shelf Go.Lib

theorem own_byt {n₀ : Nat} {W : World} {v : Value} {T : List Nat} (hT : ∀ x ∈ T, x < 256) (h : W.ownsRow n₀ 5 1 v T.length (T.map (fun z : Nat => Value.int .u8 (z : Int)))) : ∃ ao cap, v = .slice ao T.length cap ∧ Byt W ao cap T := by
  rcases id h.2 with ⟨rfl, h0⟩ | ⟨g, cap, cur, rfl, hg, hh, hn, hm, hc, ht⟩
  · obtain rfl : T = [] := List.length_eq_zero_iff.1 h0
    exact ⟨none, 0, rfl, own_byts hT h, Nat.le_refl _, fun _ => rfl⟩
  · exact ⟨_, _, rfl, own_byts hT h, hn, fun e => by cases e⟩

set_option maxRecDepth 100000 in
set_option maxHeartbeats 2000000 in
theorem uletters_calls (w : World) (ao : Option Addr) (cap : Nat) (T : List Nat) (h : Byt w ao cap T) (hlen : T.length ≤ 1000000000) :
    Calls Tryd.prog 15 #[.slice ao T.length cap] w fun e w' => ∃ (B : Nat) (ao' : Option Addr) (cap' : Nat), e = .returned (.func (.func 37) #[] #[.pointer (some ⟨B, 0, none⟩)]) ∧ Boxed w' B 22 (.slice ao' T.length cap') ∧ Byt w' ao' cap' T ∧ Below w.heap.size w w' := by
  have HC : Hid (Calls Tryd.prog 28 #[.slice ao T.length cap] w fun e w' => ∃ ao' cap', e = .returned (.slice ao' T.length cap') ∧ Byt w' ao' cap' T ∧ Below w.heap.size w w') := by
    cases ao with
    | none =>
      have hT0 : T = [] := by
        cases T with
        | nil => rfl
        | cons x l =>
          obtain ⟨_, _, e, _, hc⟩ := h.1
          cases e
          obtain ⟨_, _, e, _⟩ := hc 0 (by simp)
          cases e
      subst hT0
      refine (Tryd.bytes_Clone_nil 0 cap w).mono ?_
      rintro e w' ⟨rfl, rfl⟩
      exact ⟨none, 0, rfl, ⟨⟨none, 0, rfl, fun x hx => by simp at hx, fun j hj => by simp at hj⟩, Nat.le_refl _, fun _ => rfl⟩, Below.refl _ _⟩
    | some ad =>
      refine (Tryd.bytes_Clone_at ad T.length cap (T.map (fun z : Nat => (z : Int))) w (by simp) (by omega) (fun i hi => ?_)).mono ?_
      · obtain ⟨_, _, e, _, hc⟩ := h.1
        cases e
        obtain ⟨b, off, e, hci⟩ := hc i hi
        cases e
        have ha : (⟨b, off, none⟩ : Addr).add i = ⟨b, off + i, none⟩ := by
          unfold Addr.add
          split
          · rename_i h0; simp [h0]
          · rfl
        rw [ha, hci]
        simp [nth, hi]
      · rintro e w' ⟨v', rfl, hown, hne, hb⟩
        rw [List.map_map] at hown
        obtain ⟨ao', cap', rfl, hB⟩ := own_byt h.1.small hown
        exact ⟨ao', cap', rfl, hB, hb⟩
  clear h
  go_enter Tryd.func15, Tryd.ntmps15
  go_wp2_with fail
  refine HC.out.mono ?_
  rintro e w1 ⟨ao', cap', rfl, hB, hb⟩
  have HB := hide hB
  have KB := hide hb
  clear hB hb
  go_wp2_with fail
  refine (letters_calls _ _ _ _).mono ?_
  rintro e w2 ⟨rfl, rfl⟩
  go_wp2
  go_ret
  exact ⟨w1.heap.size, ao', cap', rfl, Boxed.new w1 _ _, HB.out.below (bel _ _), bafter KB.out (bel _ _) (Nat.le_refl _)⟩

theorem own_block {β : Type} {B D : Nat} {o : Obj} (hD : D < B) : OwnFrom B (fun (_ : β) W => W.heap[D]? = some o) := fun s W W' row hs hg hr =>
  (hg.block D (Array.getElem?_eq_some_iff.1 hs).1 (fun e => by have := (hr D e.symm).1; omega)).trans hs

end Go.Proofs.YtchpnbcagbjnnaaDoor
