/- The law UtfLines, walked. -/
import Derived.Test.YtchpnbcagbjnnaaDoorULaw1
namespace Go.Proofs.YtchpnbcagbjnnaaDoor
set_option linter.unusedVariables false
set_option linter.unusedSimpArgs false
open Go Go.RowKit Go.Shelf Go.Lib

set_option maxRecDepth 100000 in
set_option maxHeartbeats 4000000 in
theorem utflines_calls (w : World) (ao : Option Addr) (cap : Nat) (T : List Nat) (h : Byt w ao cap T) (hK : Know w) :
    Calls Tryd.prog 6 #[.slice ao T.length cap] w fun e w' => e = .returned (.bool true) ∧ Below w.heap.size w w' := by
  have H := hide h
  have HK := hide hK
  clear h hK
  by_cases hl : T.length ≤ 400
  · have hl' : ¬ (T.length : Int) > 400 := by omega
    go_enter Tryd.func6, Tryd.ntmps6
    go_wp2_with fail
    refine (lettered_calls _ HK.out).mono ?_
    rintro e W1 ⟨rfl, hb1⟩
    have H1 := hide (H.out.below hb1)
    have KB1 := hide hb1
    clear hb1
    go_wp2_with fail
    refine (lines_calls _ _ _ T H1.out.1 (by omega)).mono ?_
    rintro e W2 ⟨rv, rfl, hO, hb2⟩
    have H2 := hide (H1.out.below hb2)
    have KB2 := hide (bafter KB1.out hb2 (Nat.le_refl _))
    have HO := hide hO
    clear hb2 hO H1 KB1
    go_wp2_with fail
    refine (rlines_calls _ _ _ T H2.out.1 (by omega)).mono ?_
    rintro e W3 ⟨rw', rfl, hO2, hb3⟩
    have KB3 := hide (bafter KB2.out hb3 (Nat.le_refl _))
    have HO1 := hide (HO.out.ints.below hb3)
    have HO2 := hide hO2.ints
    clear hb3 hO2 KB2 HO
    go_wp2_with fail
    refine (rints_calls _ _ _ (linesL T) HO1.out HO2.out (by have := linesTo_length T T.length; unfold linesL; omega)).mono ?_
    rintro e W4 ⟨rfl, hb4⟩
    have KB4 := hide (bafter KB3.out hb4 (Nat.le_refl _))
    clear hb4
    go_wp2
    go_ret
    exact ⟨rfl, KB4.out⟩
  · have hl' : (T.length : Int) > 400 := by omega
    go_enter Tryd.func6, Tryd.ntmps6
    go_wp2_with fail
    refine (lettered_calls _ HK.out).mono ?_
    rintro e W1 ⟨rfl, hb1⟩
    have KB1 := hide hb1
    clear hb1
    go_wp2
    go_ret
    exact ⟨rfl, KB1.out⟩

end Go.Proofs.YtchpnbcagbjnnaaDoor
