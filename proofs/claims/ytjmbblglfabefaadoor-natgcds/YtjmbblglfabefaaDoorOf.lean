/- The contract of Of: a small number's list. -/
import Derived.Test.YtjmbblglfabefaaDoorSubMath
namespace Go.Proofs.YtjmbblglfabefaaDoor
set_option linter.unusedVariables false
set_option linter.unusedSimpArgs false
open Go Go.RowKit Go.Shelf

set_option maxHeartbeats 2000000 in
theorem of_calls (w : World) (n : Nat) (hn : n < 18446744073709551616) :
    Calls Tryd.prog 21 #[.int .u64 (n : Int)] w fun e w' => ∃ rv, e = .returned rv ∧ Answer w w' rv n ∧ Below w.heap.size w w' := by
  go_enter Tryd.func21, Tryd.ntmps21
  go_wp2_with fail
  have hrow : Row (w.alloc (.cells #[.int .u32 ((n : Int) % 4294967296), .int .u32 ((n : Int) / 4294967296)] 46)) w.heap.size [n % 4294967296, n / 4294967296] := World.alloc_heap_new w _
  have hsm : Small R [n % 4294967296, n / 4294967296] := fun x hx => by
    rw [R_eq]
    simp only [List.mem_cons, List.not_mem_nil, or_false] at hx
    omega
  have hval : val R [n % 4294967296, n / 4294967296] = n := by
    rw [val_cons, val_cons, val_nil, R_eq]; omega
  refine (trim_made w _ _ _ 2 _ hrow hsm rfl (Nat.le_refl _) (by omega) hval).mono ?_
  rintro e w5 ⟨bo, m, dap, rfl, hA, hb5⟩
  clear hval hsm hrow
  go_wp2
  go_ret
  exact ⟨_, rfl, hA, ((Below.refl _ w).alloc (Nat.le_refl _) _).trans (hb5.mono (by simp))⟩

end Go.Proofs.YtjmbblglfabefaaDoor
