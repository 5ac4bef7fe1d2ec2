/- The contracts of Shift and Bits: a number doubled so often, and how many binary digits it has. -/
import Derived.Test.YtjmbblglfabefaaDoorLaw0
import Derived.Test.YtjmbblglfabefaaDoorBShift
import Derived.Test.YtjmbblglfabefaaDoorLz
import Derived.Test.YtjmbblglfabefaaDoorRBits
namespace Go.Proofs.YtjmbblglfabefaaDoor
set_option linter.unusedVariables false
set_option linter.unusedSimpArgs false
open Go Go.RowKit Go.Shelf Go.Lib

attribute [local go_sem] Oper.semAt_some

set_option maxRecDepth 100000 in
set_option maxHeartbeats 1000000 in
theorem shift_bad (w : World) (sv : Value) (n : Int) (h : n < 0 ∨ 65536 < n) :
    Calls Tryd.prog 13 #[sv, .int .i64 n] w fun e w' => e = .returned (.tuple #[.slice none 0 0, .int .i64 1]) ∧ w' = w := by
  by_cases h1 : n < 0
  · go_enter Tryd.func13, Tryd.ntmps13
    go_wp2
    go_ret2
    exact ⟨rfl, rfl⟩
  · have h2 : n > 65536 := h.resolve_left h1
    go_enter Tryd.func13, Tryd.ntmps13
    go_wp2
    go_ret2
    exact ⟨rfl, rfl⟩

set_option maxRecDepth 100000 in
set_option maxHeartbeats 1000000 in
theorem shift_calls {w : World} {sv : Value} {m n : Nat} (hx : Arg w sv m) (hn : n ≤ 65536) :
    Calls Tryd.prog 13 #[sv, .int .i64 (n : Int)] w fun e w' => ∃ rv, e = .returned (.tuple #[rv, .int .i64 0]) ∧ Answer w w' rv (m * 2 ^ n) ∧ Below w.heap.size w w' := by
  obtain ⟨xs, hl, hlen, hv⟩ := hx
  have Hl := hide hl
  have Hv := hide hv
  have d1 : ¬ ((n : Int) < 0) := by omega
  have d2 : ¬ ((n : Int) > 65536) := by omega
  clear hl hv
  go_enter Tryd.func13, Tryd.ntmps13
  go_wp2_with fail
  refine (trim_lim _ _ _ Hl.out).mono ?_
  rintro e w1 ⟨us, ao1, cap1, rfl, hx, hcu, evx, hlx, hb1⟩
  have Hx := hide (hx.below hb1)
  clear hx hcu
  go_wp2_with fail
  refine (left_calls w1 _ us n Hx.out (by omega) hn).mono ?_
  rintro e w2 ⟨g, zs, rfl, hg, hrow, hs, hlz, hvz, hb2⟩
  have hz : zs.length ≤ 70368744177664 := by omega
  have hB := bgo hb1 hb2
  have hsz := hb1.size
  have hv2 : Hid (val R zs = m * 2 ^ n) := by show _ = _; rw [hvz.out, evx.out, Hv.out]
  clear hlz hvz evx Hv
  go_wp2_with fail
  refine (trim_made w w2 g zs zs.length (m * 2 ^ n) hrow hs rfl (by omega) hz hv2.out).mono ?_
  rintro e w3 ⟨bo, k, dap, rfl, hA, hb3⟩
  go_wp2
  go_ret2
  exact ⟨_, rfl, hA, bgo hB hb3⟩

end Go.Proofs.YtjmbblglfabefaaDoor
