/- slices.Grow and slices.Concat of bytes: three lists, one behind the other. -/
import Derived.Test.YtbdpmpepmjpadaaGreatDoorUMem
import Derived.OwnWalk
import Derived.RangeFuncRecord
import Derived.Laws.OwnMore
import Derived.Lib.AppendZeros
import Derived.Lib.OwnKind
import Derived.Deep.DeepMust
namespace Go.Proofs.YtbdpmpepmjpadaaGreatDoor
set_option linter.unusedVariables false
set_option linter.unusedSimpArgs false
set_option maxRecDepth 100000
open Go Go.RowKit Go.Shelf Go.Lib

theorem infoByte : (Tryz.prog.info? 5).map (fun i => (i.zero, i.size, i.bytes)) = some (some (.int .u8 0), 1, 1) := by kernel_rfl
def u8s (T : List Nat) : List Value := T.map (fun z : Nat => Value.int .u8 (z : Int))
theorem u8s_length (T : List Nat) : (u8s T).length = T.length := by simp [u8s]
theorem u8s_append (A B : List Nat) : u8s (A ++ B) = u8s A ++ u8s B := by simp [u8s]
/-- Bytes in a row of one's own. -/
def OwnB (n₀ : Nat) (W : World) (v : Value) (T : List Nat) : Prop := W.ownsRow n₀ 5 1 v T.length (u8s T)

theorem run_append_none (w : World) (n₀ : Nat) (ty : TypeId) (v : Value) (gs : List Nat) (c : Nat) (hown : OwnB n₀ w v gs) : (Builtin.append_ #[22, 22] ty #[v, .slice none 0 c]).run Tryz.prog w = .ok v w := by
  obtain ⟨i0, hi, hz0, hz1, hz2⟩ := info_parts infoByte
  rcases hown.2 with ⟨rfl, h0⟩ | ⟨g, cap, cur, rfl, _, _, hnc, _⟩
  · simp [Builtin.append_, run_underlying Tryz.underlying22, sizeOf, typeInfo, hi, Builtin.lenOf, Builtin.firstCells]
  · simp [Builtin.append_, run_underlying Tryz.underlying22, sizeOf, typeInfo, hi, Builtin.lenOf, Builtin.firstCells, hnc, storeCells]

theorem addr_add' (b off j : Nat) : (⟨b, off, none⟩ : Addr).add j = ⟨b, off + j, none⟩ := by
  unfold Addr.add
  split
  · rename_i h0; simp [h0]
  · rfl

/-- Appending bytes, whatever they are, to one's own. -/
theorem wpList_appB (w : World) {ops : Array Oper} {rest : List Oper} {o : Oper} {a : Act} {Q : Exit → Act → World → Prop} (hg : o.guard = none) (s x : Operand)
    (ho : o.op = .call { callee := .builtin .append, args := #[s, x], argTypes := #[22, 22] })
    (n₀ : Nat) (v : Value) (gs : List Nat) (hs : a.eval s = v) (hown : OwnB n₀ w v gs) (xv : Value) (xs : List Nat) (hx : a.eval x = xv) (hl : Byts w xv xs) (hsum : gs.length + xs.length ≤ 1000000000) (hbase : n₀ ≤ w.heap.size)
    (h : ∀ v' w', OwnB n₀ w' v' (gs ++ xs) → w.grownBy w' v.ownBlock → wpList Tryz.prog ops Q rest (a.put o.dst v') w') : wpList Tryz.prog ops Q (o :: rest) a w := by
  obtain ⟨ao, cap, rfl, h3, h4⟩ := hl
  obtain ⟨i0, hi, hz0, hz1, hz2⟩ := info_parts infoByte
  by_cases hz : xs.length = 0 ∧ ao = none
  · obtain ⟨hz, rfl⟩ := hz
    obtain rfl : xs = [] := List.length_eq_zero_iff.1 hz
    refine wpList_plain hg fun K hK => ?_
    have hrun := run_append_none w n₀ o.type v gs cap hown
    unfold Oper.wp
    simp only [List.length_nil] at hx
    simp [execOp, ho, resolve, invoke, builtin, hs, hx, hrun, Result.andThen]
    exact hK _ _ (h v w (by simpa using hown) ⟨rfl, rfl, rfl, Nat.le_refl _, fun _ _ _ => rfl⟩)
  · obtain ⟨ad, had⟩ : ∃ ad, ao = some ad := by
      cases hA : ao with
      | some ad => exact ⟨ad, rfl⟩
      | none =>
        exfalso
        apply hz
        refine ⟨?_, hA⟩
        rcases Nat.eq_zero_or_pos xs.length with e | e
        · exact e
        · obtain ⟨b, off, e2, _⟩ := h4 0 e
          rw [hA] at e2
          cases e2
    subst had
    refine wpList_append_own w hg s x 22 ho n₀ 5 i0 (.int .u8 0) 1 1 Tryz.underlying22 hi hz0 hz1 hz2 rfl (by decide) v gs.length (u8s gs) hs hown ad xs.length cap (u8s xs) hx (by simp [u8s]) ?_ ?_ (by unfold maxLen; omega) (by omega) hbase ?_
    · intro j u hj
      have hj2 : j < xs.length := by
        have := (List.getElem?_eq_some_iff.1 hj).1
        rw [u8s_length] at this
        exact this
      obtain ⟨b, off, e, hc⟩ := h4 j hj2
      cases e
      rw [addr_add', hc]
      simp [u8s, hj2] at hj
      simp [nth, hj2, hj]
    · intro u hu
      obtain ⟨z, _, rfl⟩ := List.mem_map.1 hu
      rfl
    · intro v' w' hown' hgrow _
      refine h v' w' ?_ hgrow
      unfold OwnB
      rw [List.length_append, u8s_append]
      exact hown'

end Go.Proofs.YtbdpmpepmjpadaaGreatDoor
