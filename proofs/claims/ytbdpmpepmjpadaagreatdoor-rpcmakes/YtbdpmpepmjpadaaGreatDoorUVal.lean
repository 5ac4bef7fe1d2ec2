/- The contracts of utf.letters and utf.Valid. -/
import Derived.Test.YtbdpmpepmjpadaaGreatDoorULet
namespace Go.Proofs.YtbdpmpepmjpadaaGreatDoor
set_option linter.unusedVariables false
set_option linter.unusedSimpArgs false
open Go Go.RowKit Go.Shelf Go.Lib

attribute [local go_sem] Oper.semAt_some

theorem own_boxed (B : Nat) (t : TypeId) (v : Value) (C : Nat) : OwnFrom C (fun (_ : Nat) W => Boxed W B t v) := Own.from (boxed_own B t (fun _ => v)) C
theorem own_boxedk (B : Nat) (t : TypeId) (f : Nat → Value) (C : Nat) : OwnFrom C (fun k W => Boxed W B t (f k)) := Own.from (boxed_own B t f) C
theorem boxed_below {W W' : World} {B : Nat} {t : TypeId} {v : Value} (h : Boxed W B t v) (hb : Below W.heap.size W W') : Boxed W' B t v := (hb.block B (Array.getElem?_eq_some_iff.1 h).1).trans h

theorem boxed_other {W : World} {B C : Nat} {t : TypeId} {v : Value} (h : Boxed W B t v) (hne : B ≠ C) (u : Value) : Boxed (W.setCell ⟨C, 0, none⟩ u) B t v := (heap_setCell_other W ⟨C, 0, none⟩ B u hne).trans h

set_option maxHeartbeats 1000000 in
theorem letters_calls (w : World) (ao : Option Addr) (n cap : Nat) :
    Calls Tryz.prog 63 #[.slice ao n cap] w fun e w' => e = .returned (.func (.func 87) #[] #[.pointer (some ⟨w.heap.size, 0, none⟩)]) ∧ w' = w.alloc (.cells #[.slice ao n cap] 22) := by
  go_enter Tryz.func63, Tryz.ntmps63
  go_wp2
  go_ret
  exact ⟨rfl, rfl⟩

/-- What Valid tells: the place of the first byte with which no letter begins. -/
def Told (T : List Nat) (N : Nat) (at' : Nat) (e : Int) : Prop := (∃ k, k < N ∧ (∀ j, j < k → runeAt T (posL T j) ≠ -1) ∧ runeAt T (posL T k) = -1 ∧ at' = posL T k ∧ e = 10) ∨ ((∀ k, k < N → runeAt T (posL T k) ≠ -1) ∧ at' = 0 ∧ e = 0)

set_option maxRecDepth 100000 in
set_option maxHeartbeats 4000000 in
theorem valid_calls (w : World) (ao : Option Addr) (cap : Nat) (T : List Nat) (N : Nat) (h : Byts w (.slice ao T.length cap) T) (hT : Utf8Tabs 0 1 w) (h1 : ∀ k, k < N → posL T k < T.length) (h2 : posL T N = T.length) (hlen : T.length ≤ 4611686018427387904) (hcap : T.length ≤ cap) :
    Calls Tryz.prog 45 #[.slice ao T.length cap] w fun e w' => ∃ at' er, e = .returned (.tuple #[.int .i64 ((at' : Nat) : Int), .int .i64 er]) ∧ Told T N at' er ∧ Below w.heap.size w w' := by
  refine (callsIn_wide (n := 3)).1 ?_
  refine callsIn_of_wp_marks Tryz.func45 rfl trivial ?_ rfl
  simp only [Tryz.ntmps45, List.size_toArray, List.length_cons, List.length_nil, Nat.reduceAdd, Nat.reduceSub, Array.replicate_succ, Array.replicate_zero, List.push_toArray, List.append_toArray, List.nil_append, List.cons_append]
  gi_wp2_with (refine ⟨trivial, ?_⟩; gi_at_call 63; refine (callsIn_wide.2 (letters_calls _ _ _ _)).mono ?_; rintro e w' ⟨rfl, rfl⟩)
  have b1 := Boxed.new w 3 (.int .i64 0)
  have b2 := Boxed.new (w.alloc (.cells #[.int .i64 0] 3)) 66 (.int .i64 0)
  have b3 := Boxed.new ((w.alloc (.cells #[.int .i64 0] 3)).alloc (.cells #[.int .i64 0] 66)) 22 (.slice ao T.length cap)
  simp only [World.size_alloc] at b2 b3
  have hB0 : Below w.heap.size w (((w.alloc (.cells #[.int .i64 0] 3)).alloc (.cells #[.int .i64 0] 66)).alloc (.cells #[.slice ao T.length cap] 22)) :=
    (((Below.refl _ w).alloc (Nat.le_refl _) _).alloc (by simp) _).alloc (by simp; omega) _
  refine range_knownB (gf := 87) (lb := #[.pointer (some ⟨w.heap.size + 1 + 1, 0, none⟩)]) rfl (enters_of Tryz.func87 (by kernel_rfl) rfl)
    (letters_hands (w.heap.size + 1 + 1) ao cap T N h1 h2 hlen hcap) (fun _ => rfl)
    (fun k W => (Boxed W w.heap.size 3 (.int .i64 0) ∧ Boxed W (w.heap.size + 1) 66 (.int .i64 0) ∧ Boxed W (w.heap.size + 1 + 1) 22 (.slice ao T.length cap) ∧ (∀ j, j < k → runeAt T (posL T j) ≠ -1)) ∧ Below w.heap.size w W)
    (fun c k W => ((c = .ret ∧ (∀ j, j < k → runeAt T (posL T j) ≠ -1) ∧ runeAt T (posL T k) = -1) ∧ Boxed W w.heap.size 3 (.int .i64 ((posL T k : Nat) : Int)) ∧ Boxed W (w.heap.size + 1) 66 (.int .i64 10)) ∧ Below w.heap.size w W)
    (OwnFrom.and (OwnFrom.and (own_boxed _ _ _ _) (OwnFrom.and (own_boxed _ _ _ _) (OwnFrom.and (own_boxed _ _ _ _) (ownFrom_pure _ _)))) (ownFrom_below (Nat.le_refl _) (by simp; omega)))
    (fun c => OwnFrom.and (OwnFrom.and (ownFrom_pure _ _) (OwnFrom.and (own_boxedk _ _ _ _) (own_boxed _ _ _ _))) (ownFrom_below (Nat.le_refl _) (by simp; omega)))
    ?know ?stable ⟨⟨(b1.alloc _).alloc _, b2.alloc _, b3, fun j hj => by omega⟩, hB0⟩
    (fun k => { tmps := #[.slice ao T.length cap, undef, .pointer (some ⟨w.heap.size, 0, none⟩), .pointer (some ⟨w.heap.size + 1, 0, none⟩), .int .i64 ((posL T k : Nat) : Int), .int .i32 (runeAt T (posL T k)), .slice ao T.length cap, .func (.func 87) #[] #[.pointer (some ⟨w.heap.size + 1 + 1, 0, none⟩)], .int .i64 ((posL T k : Nat) : Int), .int .i32 (runeAt T (posL T k)), undef, undef, undef], defers := [] }) ?assign ?body ?done ?stop
  case know =>
    rintro k W ⟨⟨_, _, hb, _⟩, hB⟩
    exact ⟨hb.cell, h.below hB, Utf8Tabs_below hT hB⟩
  case stable =>
    rintro k W W' ⟨⟨g1, g2, g3, g4⟩, hB⟩ hb
    exact ⟨⟨boxed_below g1 hb, boxed_below g2 hb, boxed_below g3 hb, g4⟩, bafter hB hb (Nat.le_refl _)⟩
  case assign =>
    intro l k W K hk hK
    gi_wp2
    exact hK
  case body =>
    rintro l k W hk ⟨⟨g1, g2, g3, g4⟩, hB⟩
    have c1 := g1.cell
    have f1 := g1.frozen
    have c2 := g2.cell
    have f2 := g2.frozen
    have G4 := hide g4
    clear g4
    by_cases hv : runeAt T (posL T k) = -1
    · have hv' : (runeAt T (posL T k) == -1) = true := by rw [hv]; rfl
      have Hv := hide hv
      clear hv
      have ne1 : ¬ w.heap.size = w.heap.size + 1 := by omega
      have ne2 : ¬ w.heap.size + 1 = w.heap.size := by omega
      gi_wp2
      refine ⟨((KeepsOthers.setCell _ _ _).trans (KeepsOthers.setCell _ _ _)).from _, ⟨⟨rfl, G4.out, Hv.out⟩, (boxed_other (g1.set _) (by omega) _), (boxed_other g2 (by omega) _).set _⟩, (hB.setCell (p := ⟨w.heap.size, 0, none⟩) (by simp) _).setCell (p := ⟨w.heap.size + 1, 0, none⟩) (by simp) _⟩
    · have hv' : (runeAt T (posL T k) == -1) = false := beq_eq_false_iff_ne.2 hv
      have Hv := hide hv
      clear hv
      gi_wp2
      refine ⟨KeepsFrom.refl _ _, ⟨g1, g2, g3, fun j hj => ?_⟩, hB⟩
      rcases Nat.lt_succ_iff_lt_or_eq.1 hj with e | e
      · exact G4.out j e
      · rw [e]; exact Hv.out
  case done =>
    rintro D W hD ⟨⟨g1, g2, g3, g4⟩, hB⟩ hK
    have c1 := g1.cell
    have f1 := g1.frozen
    have c2 := g2.cell
    have f2 := g2.frozen
    have G4 := hide g4
    clear g4
    have ne1 : ¬ w.heap.size = w.heap.size + 1 := by omega
    have ne2 : ¬ w.heap.size + 1 = w.heap.size := by omega
    gi_wp2
    have d1 := boxed_other (g1.set (.int .i64 0)) (show w.heap.size ≠ w.heap.size + 1 by omega) (.int .i64 0)
    have d2 := (boxed_other g2 (show w.heap.size + 1 ≠ w.heap.size by omega) (.int .i64 0)).set (.int .i64 0)
    have hK' := (((KeepsOthers.setCell W ⟨w.heap.size, 0, none⟩ (.int .i64 0)).trans (KeepsOthers.setCell _ ⟨w.heap.size + 1, 0, none⟩ (.int .i64 0)))).same D _ hK rfl
    refine ⟨by simp, .inl ⟨_, _, rfl, run_takeDeferred hK', ?_⟩⟩
    have e1 := cell_kept d1.cell (grownBy_putObj' _ D (.deferred none)) (fun r e => by cases e; exact ⟨_, hK', rfl⟩)
    have e2 := cell_kept d2.cell (grownBy_putObj' _ D (.deferred none)) (fun r e => by cases e; exact ⟨_, hK', rfl⟩)
    refine ⟨.tuple #[.int .i64 0, .int .i64 0], ?_, ⟨0, 0, rfl, .inr ⟨G4.out, rfl, rfl⟩, ((hB.setCell (p := ⟨w.heap.size, 0, none⟩) (by simp) _).setCell (p := ⟨w.heap.size + 1, 0, none⟩) (by simp) _).trans (belowK_b (w := w) (Nat.le_refl _) _ D _ _ (by simp at hD; omega) hK' rfl rfl)⟩⟩
    simp [results, Tryz.f45, go_sem, e1, e2]
  case stop =>
    rintro D c k W hD hk ⟨⟨⟨rfl, g4, g5⟩, g1, g2⟩, hB⟩ hK
    gi_wp2
    refine ⟨by simp, .inl ⟨_, _, rfl, run_takeDeferred hK, ?_⟩⟩
    have e1 := cell_kept g1.cell (grownBy_putObj' _ D (.deferred none)) (fun r e => by cases e; exact ⟨_, hK, rfl⟩)
    have e2 := cell_kept g2.cell (grownBy_putObj' _ D (.deferred none)) (fun r e => by cases e; exact ⟨_, hK, rfl⟩)
    refine ⟨.tuple #[.int .i64 ((posL T k : Nat) : Int), .int .i64 10], ?_, ⟨posL T k, 10, rfl, .inl ⟨k, hk, g4, g5, rfl, rfl⟩, hB.trans (belowK_b (w := w) (Nat.le_refl _) W D _ _ (by simp at hD; omega) hK rfl rfl)⟩⟩
    simp [results, Tryz.f45, go_sem, e1, e2]

end Go.Proofs.YtbdpmpepmjpadaaGreatDoor
