/- The law UtfValid, walked. -/
import Derived.Test.YtchpnbcagbjnnaaDoorULaw1
import Derived.Test.YtchpnbcagbjnnaaDoorURVal
namespace Go.Proofs.YtchpnbcagbjnnaaDoor
set_option linter.unusedVariables false
set_option linter.unusedSimpArgs false
open Go Go.RowKit Go.Shelf Go.Lib

set_option maxRecDepth 100000 in
set_option maxHeartbeats 4000000 in
theorem utfvalid_calls (w : World) (ao : Option Addr) (cap : Nat) (T : List Nat) (h : Byt w ao cap T) (hK : Know w) :
    Calls Tryd.prog 3 #[.slice ao T.length cap] w fun e w' => e = .returned (.bool true) ∧ Below w.heap.size w w' := by
  have H := hide h
  have HK := hide hK
  obtain ⟨N, n1, n2⟩ := letters_count h.1.small
  have N1 := hide n1
  have N2 := hide n2
  clear h hK n1 n2
  by_cases hl : T.length ≤ 400
  · have hl' : ¬ (T.length : Int) > 400 := by omega
    go_enter Tryd.func3, Tryd.ntmps3
    go_wp2_with fail
    refine (valid_calls _ _ _ T N H.out.1 HK.out.tabs N1.out N2.out (by omega) H.out.2.1).mono ?_
    rintro e W1 ⟨a, er, rfl, hT, hb1⟩
    have H1 := hide (H.out.below hb1)
    have KB1 := hide hb1
    have HT := hide hT
    clear hb1 hT
    go_wp2_with fail
    refine (rvalid_calls _ _ _ T N H1.out.1 H1.out.2.1 N1.out N2.out (by omega)).mono ?_
    rintro e W2 ⟨a', er', rfl, hT', hb2⟩
    obtain ⟨rfl, rfl⟩ := told_one HT.out hT'
    have H2 := hide (H1.out.below hb2)
    have KB2 := hide (bafter KB1.out hb2 (Nat.le_refl _))
    have haa : ((a : Int) == (a : Int)) = true := by simp
    have hee : (er == er) = true := by simp
    clear hb2 hT' H1 KB1 HT
    go_wp2_with fail
    refine (lettered_calls _ (HK.out.below KB2.out)).mono ?_
    rintro e W3 ⟨rfl, hb3⟩
    have H3 := hide (H2.out.below hb3)
    have KB3 := hide (bafter KB2.out hb3 (Nat.le_refl _))
    clear hb3 H2 KB2
    go_wp2_with fail
    refine (units_calls _ _ _ T N H3.out.1 (HK.out.below KB3.out).tabs N1.out N2.out (by omega) H3.out.2.1).mono ?_
    rintro e W4 ⟨rfl, hb4⟩
    have H4 := hide (H3.out.below hb4)
    have KB4 := hide (bafter KB3.out hb4 (Nat.le_refl _))
    clear hb4 H3 KB3
    go_wp2_with fail
    refine (runits_calls _ _ _ T N H4.out.1 H4.out.2.1 N1.out N2.out (by omega)).mono ?_
    rintro e W5 ⟨rfl, hb5⟩
    have KB5 := hide (bafter KB4.out hb5 (Nat.le_refl _))
    clear hb5 H4 KB4
    go_wp2
    go_ret
    exact ⟨rfl, KB5.out⟩
  · have hl' : (T.length : Int) > 400 := by omega
    go_enter Tryd.func3, Tryd.ntmps3
    go_wp2_with fail
    refine (lettered_calls _ HK.out).mono ?_
    rintro e W1 ⟨rfl, hb1⟩
    have KB1 := hide hb1
    clear hb1
    go_wp2
    go_ret
    exact ⟨rfl, KB1.out⟩

end Go.Proofs.YtchpnbcagbjnnaaDoor
