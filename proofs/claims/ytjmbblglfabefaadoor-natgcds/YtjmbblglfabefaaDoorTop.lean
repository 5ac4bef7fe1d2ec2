/- The iterator fromTop hands over a slice's numbers, the last one first, to whatever round keeps the slice and the numbers that are still to come. -/
import Derived.Test.YtjmbblglfabefaaDoorRange
import Derived.Test.YtjmbblglfabefaaDoorRows
import Derived.WalkSpells
import Derived.WalkLawsBesides
namespace Go.Proofs.YtjmbblglfabefaaDoor
set_option linter.unusedVariables false
set_option linter.unusedSimpArgs false
open Go Go.RowKit Go.Shelf

attribute [local go_sem] Oper.semAt_some

/-- What fromTop reads ahead of round k: its box, and the cell that is next. -/
def TopKnow (Bs : Nat) (ao : Option Addr) (len cap : Nat) (v : Nat → Int) (k : Nat) (W : World) : Prop :=
  W.cell? ⟨Bs, 0, none⟩ = some (.slice ao len cap) ∧ (k < len → ∃ b off, ao = some ⟨b, off, none⟩ ∧ W.cell? ⟨b, off + (len - 1 - k), none⟩ = some (.int .u32 (v k)))

set_option maxRecDepth 100000 in
set_option maxHeartbeats 1000000 in
theorem top_hands (Bs : Nat) (ao : Option Addr) (len cap : Nat) (v : Nat → Int) (hlen : len ≤ 4611686018427387904) :
    Hands Tryd.prog 49 #[.pointer (some ⟨Bs, 0, none⟩)] len (fun k => #[.int .i64 ((len : Int) - 1 - k), .int .u32 (v k)]) (TopKnow Bs ao len cap v) := by
  intro l J Jx W hKn hY h0
  refine callsIn_of_wp Tryd.func49 rfl trivial ?_ rfl
  simp only [Tryd.ntmps49, List.size_toArray, List.length_cons, List.length_nil, Nat.reduceAdd, Nat.reduceSub, Array.replicate_succ, Array.replicate_zero, List.push_toArray, List.append_toArray, List.nil_append, List.cons_append]
  have hb0 := (hKn 0 W h0).1
  gi_wp2
  gi_loopw [3] (fun i wr => ∃ k : Nat, k ≤ len ∧ i = .int .i64 ((len : Int) - 1 - k) ∧ J k wr) (fun i _ => ((intOf i) + 1).toNat)
  case atStart => exact ⟨0, Nat.zero_le _, by simp, h0⟩
  case round =>
    obtain ⟨k, hk, rfl, hJ⟩ := hrel
    obtain ⟨hbx, hcell⟩ := hKn k _ hJ
    by_cases hlt : k < len
    · obtain ⟨b, off, rfl, hc⟩ := hcell hlt
      obtain ⟨fn, tmps, assign, body, hy, hR⟩ := hY k _ hlt hJ
      clear hcell
      gi_wp2
      refine hR.mono ?_
      rintro e W3 (⟨rfl, hJ3⟩ | ⟨rfl, hJx3⟩)
      · gi_wp2
        go_roundw
        case rel => exact ⟨k + 1, by omega, by go_num, hJ3⟩
        case measure => simp [intOf]; omega
      · gi_wp2
        refine bodyPost_ret (results_none rfl _ _ _) rfl ?_
        exact ⟨⟨_, rfl⟩, .inr ⟨k, hlt, hJx3⟩⟩
    · obtain rfl : k = len := by omega
      gi_wp2
      go_end0
      exact ⟨⟨_, rfl⟩, .inl hJ⟩

set_option maxHeartbeats 1000000 in
theorem fromTop_calls (sv : Value) (w : World) (hsv : ∃ a len cap, sv = .slice a len cap) :
    Calls Tryd.prog 36 #[sv] w fun e w' => e = .returned (.func (.func 49) #[] #[.pointer (some ⟨w.heap.size, 0, none⟩)]) ∧ w' = w.alloc (.cells #[sv] 22) := by
  obtain ⟨a, len, cap, rfl⟩ := hsv
  go_enter Tryd.func36, Tryd.ntmps36
  go_wp2
  go_ret
  exact ⟨rfl, rfl⟩

end Go.Proofs.YtjmbblglfabefaaDoor
