/- The law LexNames, walked. -/
import Derived.Test.YtehflaenehehhaaLParted
import Derived.Test.YtehflaenehehhaaLRName
namespace Go.Proofs.Ytehflaenehehhaa
set_option linter.unusedVariables false
set_option linter.unusedSimpArgs false
set_option maxRecDepth 100000
open Go Go.RowKit Go.Shelf Go.Lib

set_option maxHeartbeats 4000000 in
theorem lexnames_calls (w : World) (s : ByteArray) :
    Calls Try.prog 5 #[.string s] w fun e w' => e = .returned (.bool true) ∧ Below w.heap.size w w' := by
  go_enter Try.func5, Try.ntmps5
  go_wp2_with fail
  refine (parted_calls w).mono ?_
  rintro e W1 ⟨rfl, hb1⟩
  have K1 := hide hb1
  clear hb1
  go_wp2_with fail
  refine (isWord_calls W1 s).mono ?_
  rintro e W2 ⟨rfl, hw⟩
  rw [hw]
  clear hw
  go_wp2_with fail
  refine (rIsWord_calls W1 s).mono ?_
  rintro e W3 ⟨rfl, hb3⟩
  have K3 := hide (bafter K1.out hb3 (Nat.le_refl _))
  clear hb3 K1
  generalize isW s = bw
  have hbw : (bw == bw) = true := by cases bw <;> rfl
  go_wp2_with fail
  refine (isName_calls W3 s).mono ?_
  rintro e W4 ⟨rfl, hb4⟩
  have K4 := hide (bafter K3.out hb4 (Nat.le_refl _))
  clear hb4 K3
  go_wp2_with fail
  refine (rIsName_calls W4 s).mono ?_
  rintro e W5 ⟨rfl, hb5⟩
  have K5 := hide (bafter K4.out hb5 (Nat.le_refl _))
  clear hb5 K4
  generalize isN s = bn
  have hbn : (bn == bn) = true := by cases bn <;> rfl
  go_wp2
  go_ret
  exact ⟨rfl, K5.out⟩

end Go.Proofs.Ytehflaenehehhaa
