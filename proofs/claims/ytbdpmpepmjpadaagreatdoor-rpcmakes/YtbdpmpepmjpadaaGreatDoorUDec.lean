/- The contracts of the library's decoder of bytes: decodeRuneSlow, DecodeRune. -/
import Derived.Test.YtbdpmpepmjpadaaGreatDoorUMem
namespace Go.Proofs.YtbdpmpepmjpadaaGreatDoor
set_option linter.unusedVariables false
set_option linter.unusedSimpArgs false
set_option maxRecDepth 100000
open Go Go.RowKit Go.Shelf Go.Lib

theorem Byts.at {W : World} {b off n cap : Nat} {T : List Nat} (hc : ∀ j, j < T.length → ∃ b' off', (some ⟨b, off, none⟩ : Option Addr) = some ⟨b', off', none⟩ ∧ W.cell? ⟨b', off' + j, none⟩ = some (.int .u8 ((nth T j : Nat) : Int))) {j : Nat} (hj : j < T.length) : W.cell? ⟨b, off + j, none⟩ = some (.int .u8 ((nth T j : Nat) : Int)) := by
  obtain ⟨b', off', e, h⟩ := hc j hj
  cases e
  exact h

set_option maxHeartbeats 8000000 in
theorem dslow_calls (w : World) (v : Value) (T : List Nat) (h : Byts w v T) (hT : Utf8Tabs 0 1 w) :
    Calls Tryz.prog 104 #[v] w fun e w' => e = .returned (.tuple #[.int .i32 (((decL T).1 : Nat) : Int), .int .i64 (((decL T).2 : Nat) : Int)]) ∧ Below w.heap.size w w' := by
  obtain ⟨ao, cap, rfl, hb, hc⟩ := h
  by_cases h0 : T.length = 0
  · have hz : (T.length : Int) < 1 := by omega
    have hd : decL T = (65533, 0) := by unfold decL; rw [if_pos h0]
    rw [hd]
    clear hd hc hb hT
    go_enter Tryz.func104, Tryz.ntmps104
    go_wp2
    go_ret2
    exact ⟨rfl, Below.refl _ _⟩
  · obtain ⟨b, off, rfl, _⟩ := hc 0 (by omega)
    have hz0 : (0 : Int) < (T.length : Int) := by omega
    have hz0' : ¬ ((T.length : Int) < 1) := by omega
    have hd : decL T = decodeN T.length (nth T 0) (nth T 1) (nth T 2) (nth T 3) := by unfold decL; rw [if_neg h0]
    rw [hd]
    have c0 := Byts.at (n := 0) (cap := 0) hc (show 0 < T.length by omega)
    rw [Nat.add_zero] at c0
    have c1 := fun hh => Byts.at (n := 0) (cap := 0) hc (j := 1) hh
    have c2 := fun hh => Byts.at (n := 0) (cap := 0) hc (j := 2) hh
    have c3 := fun hh => Byts.at (n := 0) (cap := 0) hc (j := 3) hh
    have l0 := nth_lt hb 0
    have l1 := nth_lt hb 1
    have l2 := nth_lt hb 2
    have l3 := nth_lt hb 3
    have H1 := hide c1
    have H2 := hide c2
    have H3 := hide c3
    clear hc hb hd c1 c2 c3
    generalize hx0 : nth T 0 = x0 at *
    generalize hx1 : nth T 1 = x1 at *
    generalize hx2 : nth T 2 = x2 at *
    generalize hx3 : nth T 3 = x3 at *
    generalize hn : T.length = n at *
    clear hx0 hx1 hx2 hx3 hn
    have hc0 := hT.1 x0 (by omega)
    have hres : firstT x0 < 240 → decodeN n x0 x1 x2 x3 = slowN n x0 x1 x2 x3 (firstT x0 % 8) (accLo (firstT x0 / 16)) (accHi (firstT x0 / 16)) :=
      fun h => (slow_eq _ _ _ _ _ (by omega) (by omega) (by omega) (by omega) h).symm
    rcases firstT_cases x0 with hX | hX | hX | hX | hX | hX | hX | hX | hX
    · rw [ascii_eq _ _ _ _ _ hX]
      rw [hX] at hc0
      clear hres hT hX H1 H2 H3
      go_enter Tryz.func104, Tryz.ntmps104
      go_wp2
      rw [Utf8W.mask240, Utf8W.keep_byte ⟨x0, l0⟩]
      go_ret2
      exact ⟨rfl, Below.refl _ _⟩
    · rw [bad_eq _ _ _ _ _ (by omega) hX]
      rw [hX] at hc0
      clear hres hT hX H1 H2 H3
      go_enter Tryz.func104, Tryz.ntmps104
      go_wp2
      rw [Utf8W.mask241, Utf8W.drop_byte ⟨x0, l0⟩]
      go_ret2
      exact ⟨rfl, Below.refl _ _⟩
    all_goals replace hres := hres (by omega)
    · rw [hX] at hc0 hres
      have ha0 := (hT.2 0 (by omega)).1
      have ha1 := (hT.2 0 (by omega)).2
      simp only [accLo, accHi, Nat.reduceMul, Nat.reduceAdd, Nat.reduceEqDiff, if_true, if_false, Nat.reduceMod, Nat.reduceDiv] at ha0 ha1 hres
      rw [hres]
      clear hres hT hX
      by_cases hn : n < 2
      · have hnz : (n : Int) < 2 := by omega
        clear H1 H2 H3
        go_enter Tryz.func104, Tryz.ntmps104
        go_wp2
        all_goals (go_ret2; refine ⟨?_, (Below.refl _ _).alloc (Nat.le_refl _) _⟩; utf8_leaf)
      · have hnz : ¬ (n : Int) < 2 := by omega
        have z1 : (1 : Int) < (n : Int) := by omega
        have c1 := H1.out (by omega)
        have b1 := block_lt c1
        clear H1 H2 H3
        go_enter Tryz.func104, Tryz.ntmps104
        go_wp2
        all_goals (go_ret2; refine ⟨?_, (Below.refl _ _).alloc (Nat.le_refl _) _⟩; utf8_leaf)
    · rw [hX] at hc0 hres
      have ha0 := (hT.2 1 (by omega)).1
      have ha1 := (hT.2 1 (by omega)).2
      simp only [accLo, accHi, Nat.reduceMul, Nat.reduceAdd, Nat.reduceEqDiff, if_true, if_false, Nat.reduceMod, Nat.reduceDiv] at ha0 ha1 hres
      rw [hres]
      clear hres hT hX
      by_cases hn : n < 3
      · have hnz : (n : Int) < 3 := by omega
        clear H1 H2 H3
        go_enter Tryz.func104, Tryz.ntmps104
        go_wp2
        all_goals (go_ret2; refine ⟨?_, (Below.refl _ _).alloc (Nat.le_refl _) _⟩; utf8_leaf)
      · have hnz : ¬ (n : Int) < 3 := by omega
        have z1 : (1 : Int) < (n : Int) := by omega
        have c1 := H1.out (by omega)
        have b1 := block_lt c1
        have z2 : (2 : Int) < (n : Int) := by omega
        have c2 := H2.out (by omega)
        have b2 := block_lt c2
        clear H1 H2 H3
        go_enter Tryz.func104, Tryz.ntmps104
        go_wp2
        all_goals (go_ret2; refine ⟨?_, (Below.refl _ _).alloc (Nat.le_refl _) _⟩; utf8_leaf)
    · rw [hX] at hc0 hres
      have ha0 := (hT.2 0 (by omega)).1
      have ha1 := (hT.2 0 (by omega)).2
      simp only [accLo, accHi, Nat.reduceMul, Nat.reduceAdd, Nat.reduceEqDiff, if_true, if_false, Nat.reduceMod, Nat.reduceDiv] at ha0 ha1 hres
      rw [hres]
      clear hres hT hX
      by_cases hn : n < 3
      · have hnz : (n : Int) < 3 := by omega
        clear H1 H2 H3
        go_enter Tryz.func104, Tryz.ntmps104
        go_wp2
        all_goals (go_ret2; refine ⟨?_, (Below.refl _ _).alloc (Nat.le_refl _) _⟩; utf8_leaf)
      · have hnz : ¬ (n : Int) < 3 := by omega
        have z1 : (1 : Int) < (n : Int) := by omega
        have c1 := H1.out (by omega)
        have b1 := block_lt c1
        have z2 : (2 : Int) < (n : Int) := by omega
        have c2 := H2.out (by omega)
        have b2 := block_lt c2
        clear H1 H2 H3
        go_enter Tryz.func104, Tryz.ntmps104
        go_wp2
        all_goals (go_ret2; refine ⟨?_, (Below.refl _ _).alloc (Nat.le_refl _) _⟩; utf8_leaf)
    · rw [hX] at hc0 hres
      have ha0 := (hT.2 2 (by omega)).1
      have ha1 := (hT.2 2 (by omega)).2
      simp only [accLo, accHi, Nat.reduceMul, Nat.reduceAdd, Nat.reduceEqDiff, if_true, if_false, Nat.reduceMod, Nat.reduceDiv] at ha0 ha1 hres
      rw [hres]
      clear hres hT hX
      by_cases hn : n < 3
      · have hnz : (n : Int) < 3 := by omega
        clear H1 H2 H3
        go_enter Tryz.func104, Tryz.ntmps104
        go_wp2
        all_goals (go_ret2; refine ⟨?_, (Below.refl _ _).alloc (Nat.le_refl _) _⟩; utf8_leaf)
      · have hnz : ¬ (n : Int) < 3 := by omega
        have z1 : (1 : Int) < (n : Int) := by omega
        have c1 := H1.out (by omega)
        have b1 := block_lt c1
        have z2 : (2 : Int) < (n : Int) := by omega
        have c2 := H2.out (by omega)
        have b2 := block_lt c2
        clear H1 H2 H3
        go_enter Tryz.func104, Tryz.ntmps104
        go_wp2
        all_goals (go_ret2; refine ⟨?_, (Below.refl _ _).alloc (Nat.le_refl _) _⟩; utf8_leaf)
    · rw [hX] at hc0 hres
      have ha0 := (hT.2 3 (by omega)).1
      have ha1 := (hT.2 3 (by omega)).2
      simp only [accLo, accHi, Nat.reduceMul, Nat.reduceAdd, Nat.reduceEqDiff, if_true, if_false, Nat.reduceMod, Nat.reduceDiv] at ha0 ha1 hres
      rw [hres]
      clear hres hT hX
      by_cases hn : n < 4
      · have hnz : (n : Int) < 4 := by omega
        clear H1 H2 H3
        go_enter Tryz.func104, Tryz.ntmps104
        go_wp2
        all_goals (go_ret2; refine ⟨?_, (Below.refl _ _).alloc (Nat.le_refl _) _⟩; utf8_leaf)
      · have hnz : ¬ (n : Int) < 4 := by omega
        have z1 : (1 : Int) < (n : Int) := by omega
        have c1 := H1.out (by omega)
        have b1 := block_lt c1
        have z2 : (2 : Int) < (n : Int) := by omega
        have c2 := H2.out (by omega)
        have b2 := block_lt c2
        have z3 : (3 : Int) < (n : Int) := by omega
        have c3 := H3.out (by omega)
        have b3 := block_lt c3
        clear H1 H2 H3
        go_enter Tryz.func104, Tryz.ntmps104
        go_wp2
        all_goals (go_ret2; refine ⟨?_, (Below.refl _ _).alloc (Nat.le_refl _) _⟩; utf8_leaf)
    · rw [hX] at hc0 hres
      have ha0 := (hT.2 0 (by omega)).1
      have ha1 := (hT.2 0 (by omega)).2
      simp only [accLo, accHi, Nat.reduceMul, Nat.reduceAdd, Nat.reduceEqDiff, if_true, if_false, Nat.reduceMod, Nat.reduceDiv] at ha0 ha1 hres
      rw [hres]
      clear hres hT hX
      by_cases hn : n < 4
      · have hnz : (n : Int) < 4 := by omega
        clear H1 H2 H3
        go_enter Tryz.func104, Tryz.ntmps104
        go_wp2
        all_goals (go_ret2; refine ⟨?_, (Below.refl _ _).alloc (Nat.le_refl _) _⟩; utf8_leaf)
      · have hnz : ¬ (n : Int) < 4 := by omega
        have z1 : (1 : Int) < (n : Int) := by omega
        have c1 := H1.out (by omega)
        have b1 := block_lt c1
        have z2 : (2 : Int) < (n : Int) := by omega
        have c2 := H2.out (by omega)
        have b2 := block_lt c2
        have z3 : (3 : Int) < (n : Int) := by omega
        have c3 := H3.out (by omega)
        have b3 := block_lt c3
        clear H1 H2 H3
        go_enter Tryz.func104, Tryz.ntmps104
        go_wp2
        all_goals (go_ret2; refine ⟨?_, (Below.refl _ _).alloc (Nat.le_refl _) _⟩; utf8_leaf)
    · rw [hX] at hc0 hres
      have ha0 := (hT.2 4 (by omega)).1
      have ha1 := (hT.2 4 (by omega)).2
      simp only [accLo, accHi, Nat.reduceMul, Nat.reduceAdd, Nat.reduceEqDiff, if_true, if_false, Nat.reduceMod, Nat.reduceDiv] at ha0 ha1 hres
      rw [hres]
      clear hres hT hX
      by_cases hn : n < 4
      · have hnz : (n : Int) < 4 := by omega
        clear H1 H2 H3
        go_enter Tryz.func104, Tryz.ntmps104
        go_wp2
        all_goals (go_ret2; refine ⟨?_, (Below.refl _ _).alloc (Nat.le_refl _) _⟩; utf8_leaf)
      · have hnz : ¬ (n : Int) < 4 := by omega
        have z1 : (1 : Int) < (n : Int) := by omega
        have c1 := H1.out (by omega)
        have b1 := block_lt c1
        have z2 : (2 : Int) < (n : Int) := by omega
        have c2 := H2.out (by omega)
        have b2 := block_lt c2
        have z3 : (3 : Int) < (n : Int) := by omega
        have c3 := H3.out (by omega)
        have b3 := block_lt c3
        clear H1 H2 H3
        go_enter Tryz.func104, Tryz.ntmps104
        go_wp2
        all_goals (go_ret2; refine ⟨?_, (Below.refl _ _).alloc (Nat.le_refl _) _⟩; utf8_leaf)

end Go.Proofs.YtbdpmpepmjpadaaGreatDoor
