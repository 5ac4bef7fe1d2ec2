/- Json: plain of any value. -/
import Derived.Test.YtacgocfgcoejpaaDoorJSeq
namespace Go.Proofs.YtacgocfgcoejpaaDoor
set_option linter.unusedVariables false
set_option linter.unusedSimpArgs false
set_option maxRecDepth 100000
open Go Go.RowKit Go.Shelf Go.Lib

def nilV : Value := .slice none 0 0
/-- A value without what its kind does not name. -/
def plainJ (x : JC) : JC :=
  if x.1 = 3 ∨ x.1 = 4 then (x.1, x.2.1, nilV, nilV)
  else if x.1 = 5 then (x.1, ⟨#[]⟩, nilV, x.2.2.2)
  else if x.1 = 6 then (x.1, ⟨#[]⟩, x.2.2.1, x.2.2.2)
  else (x.1, ⟨#[]⟩, nilV, nilV)
def PlainR (x : JC) (w : World) (e : Ending) (w' : World) : Prop := e = .returned (vagg (plainJ x)) ∧ Below w.heap.size w w'

set_option maxHeartbeats 8000000 in
theorem plain_any (w : World) (k : Int) (s : ByteArray) (ka la : Option Addr) (kn kc ln lc : Nat) : Calls Tryd.prog 26 #[vagg (k, s, .slice ka kn kc, .slice la ln lc)] w (PlainR (k, s, .slice ka kn kc, .slice la ln lc) w) := by
  by_cases h3 : k = 3
  · subst h3
    have HP : Hid (plainJ (3, s, .slice ka kn kc, .slice la ln lc) = (3, s, nilV, nilV)) := by show _ = _; simp [plainJ]
    unfold vagg
    simp only
    go_enter Tryd.func26, Tryd.ntmps26
    go_wp2
    have hx := BoxC.new (w.alloc (.cells #[.int .i64 3, .string s, .slice ka kn kc, .slice la ln lc] 25)) 25 #[.int .i64 3, .string s, .slice none 0 0, .slice none 0 0]
    rw [World.size_alloc] at hx
    refine bodyPost_ret (results_jv rfl rfl hx) rfl ?_
    refine ⟨?_, (bel w _).alloc (by simp) _⟩
    rw [HP.out]
    rfl
  by_cases h4 : k = 4
  · subst h4
    have HP : Hid (plainJ (4, s, .slice ka kn kc, .slice la ln lc) = (4, s, nilV, nilV)) := by show _ = _; simp [plainJ]
    unfold vagg
    simp only
    go_enter Tryd.func26, Tryd.ntmps26
    go_wp2
    have hx := BoxC.new (w.alloc (.cells #[.int .i64 4, .string s, .slice ka kn kc, .slice la ln lc] 25)) 25 #[.int .i64 4, .string s, .slice none 0 0, .slice none 0 0]
    rw [World.size_alloc] at hx
    refine bodyPost_ret (results_jv rfl rfl hx) rfl ?_
    refine ⟨?_, (bel w _).alloc (by simp) _⟩
    rw [HP.out]
    rfl
  by_cases h5 : k = 5
  · subst h5
    have HP : Hid (plainJ (5, s, .slice ka kn kc, .slice la ln lc) = (5, ⟨#[]⟩, nilV, .slice la ln lc)) := by show _ = _; simp [plainJ]
    unfold vagg
    simp only
    go_enter Tryd.func26, Tryd.ntmps26
    go_wp2
    have hx := BoxC.new (w.alloc (.cells #[.int .i64 5, .string s, .slice ka kn kc, .slice la ln lc] 25)) 25 #[.int .i64 5, .string ⟨#[]⟩, .slice none 0 0, .slice la ln lc]
    rw [World.size_alloc] at hx
    refine bodyPost_ret (results_jv rfl rfl hx) rfl ?_
    refine ⟨?_, (bel w _).alloc (by simp) _⟩
    rw [HP.out]
    rfl
  by_cases h6 : k = 6
  · subst h6
    have HP : Hid (plainJ (6, s, .slice ka kn kc, .slice la ln lc) = (6, ⟨#[]⟩, .slice ka kn kc, .slice la ln lc)) := by show _ = _; simp [plainJ]
    unfold vagg
    simp only
    go_enter Tryd.func26, Tryd.ntmps26
    go_wp2
    have hx := BoxC.new (w.alloc (.cells #[.int .i64 6, .string s, .slice ka kn kc, .slice la ln lc] 25)) 25 #[.int .i64 6, .string ⟨#[]⟩, .slice ka kn kc, .slice la ln lc]
    rw [World.size_alloc] at hx
    refine bodyPost_ret (results_jv rfl rfl hx) rfl ?_
    refine ⟨?_, (bel w _).alloc (by simp) _⟩
    rw [HP.out]
    rfl
  have d3 : (k == 3) = false := by simpa using h3
  have d4 : (k == 4) = false := by simpa using h4
  have d5 : (k == 5) = false := by simpa using h5
  have d6 : (k == 6) = false := by simpa using h6
  have HP : Hid (plainJ (k, s, .slice ka kn kc, .slice la ln lc) = (k, ⟨#[]⟩, nilV, nilV)) := by show _ = _; simp [plainJ, h3, h4, h5, h6]
  unfold vagg
  simp only
  go_enter Tryd.func26, Tryd.ntmps26
  go_wp2
  have hx := BoxC.new (w.alloc (.cells #[.int .i64 k, .string s, .slice ka kn kc, .slice la ln lc] 25)) 25 #[.int .i64 k, .string ⟨#[]⟩, .slice none 0 0, .slice none 0 0]
  rw [World.size_alloc] at hx
  refine bodyPost_ret (results_jv rfl rfl hx) rfl ?_
  refine ⟨?_, (bel w _).alloc (by simp) _⟩
  rw [HP.out]
  rfl

end Go.Proofs.YtacgocfgcoejpaaDoor
