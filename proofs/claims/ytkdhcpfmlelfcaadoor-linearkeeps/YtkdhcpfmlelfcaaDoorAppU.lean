/- Lists that a call has gathered by append, with more behind their end. -/
import Derived.Test.YtkdhcpfmlelfcaaDoorBLimbs
namespace Go.Proofs.YtkdhcpfmlelfcaaDoor
set_option linter.unusedVariables false
set_option linter.unusedSimpArgs false
open Go Go.RowKit Go.Shelf Go.Lib

theorem run_append_empty (w : World) (n₀ : Nat) (ty : TypeId) (v : Value) (gs : List Nat) (c : Nat) (hown : OwnU n₀ w v gs) : (Builtin.append_ #[22, 22] ty #[v, .slice none 0 c]).run Tryd.prog w = .ok v w := by
  obtain ⟨i0, hi, hz0, hz1, hz2⟩ := info_parts infoU32
  rcases hown.2 with ⟨rfl, h0⟩ | ⟨g, cap, cur, rfl, _, _, hnc, _⟩
  · simp [Builtin.append_, run_underlying Tryd.underlying22, sizeOf, typeInfo, hi, Builtin.lenOf, Builtin.firstCells]
  · simp [Builtin.append_, run_underlying Tryd.underlying22, sizeOf, typeInfo, hi, Builtin.lenOf, Builtin.firstCells, hnc, storeCells]

theorem u32s_length (gs : List Nat) : (u32s gs).length = gs.length := by simp [u32s]

theorem u32s_append (gs xs : List Nat) : u32s (gs ++ xs) = u32s gs ++ u32s xs := by simp [u32s]

/-- Appending a list of limbs, whatever it is, to one's own. -/
theorem wpList_appU (w : World) {ops : Array Oper} {rest : List Oper} {o : Oper} {a : Act} {Q : Exit → Act → World → Prop} (hg : o.guard = none) (s x : Operand)
    (ho : o.op = .call { callee := .builtin .append, args := #[s, x], argTypes := #[22, 22] })
    (n₀ : Nat) (v : Value) (gs : List Nat) (hs : a.eval s = v) (hown : OwnU n₀ w v gs) (xv : Value) (xs : List Nat) (hx : a.eval x = xv) (hl : Limbs w xv xs) (hsum : gs.length + xs.length ≤ 1048576) (hbase : n₀ ≤ w.heap.size)
    (h : ∀ v' w', OwnU n₀ w' v' (gs ++ xs) → w.grownBy w' v.ownBlock → wpList Tryd.prog ops Q rest (a.put o.dst v') w') : wpList Tryd.prog ops Q (o :: rest) a w := by
  obtain ⟨ao, cap, rfl, h1, h2, h3, h4⟩ := hl
  obtain ⟨i0, hi, hz0, hz1, hz2⟩ := info_parts infoU32
  cases ao with
  | none =>
    have hd0 : xs = [] := by
      cases xs with
      | nil => rfl
      | cons y r => obtain ⟨b, off, e, _⟩ := h4 0 (by simp); cases e
    subst hd0
    refine wpList_plain hg fun K hK => ?_
    have hrun := run_append_empty w n₀ o.type v gs cap hown
    unfold Oper.wp
    simp only [List.length_nil] at hx
    simp [execOp, ho, resolve, invoke, builtin, hs, hx, hrun, Result.andThen]
    exact hK _ _ (h v w (by simpa using hown) ⟨rfl, rfl, rfl, Nat.le_refl _, fun _ _ _ => rfl⟩)
  | some ad =>
    refine wpList_append_own w hg s x 22 ho n₀ 53 i0 (.int .u32 0) 1 4 Tryd.underlying22 hi hz0 hz1 hz2 rfl (by decide) v gs.length (u32s gs) hs hown ad xs.length cap (u32s xs) hx (by simp [u32s]) ?_ ?_ (by unfold maxLen; omega) (by omega) hbase ?_
    · intro j u hj
      have hj2 : j < xs.length := by
        have := (List.getElem?_eq_some_iff.1 hj).1
        rw [u32s_length] at this
        exact this
      obtain ⟨b, off, e, hc⟩ := h4 j hj2
      cases e
      rw [addr_add, hc, nth_eq hj2]
      simp [u32s, hj2] at hj
      rw [hj]
    · intro u hu
      obtain ⟨z, _, rfl⟩ := List.mem_map.1 hu
      rfl
    · intro v' w' hown' hgrow _
      refine h v' w' ?_ hgrow
      unfold OwnU
      rw [List.length_append, u32s_append]
      exact hown'

theorem lit_one (w : World) (t : Nat) (ht : t < 4294967296) : Limbs (w.alloc (.cells #[.int .u32 (t : Int)] 53)) (.slice (some ⟨w.heap.size, 0, none⟩) 1 1) [t] := by
  have := lit_limbs w [t] (fun x hx => by rw [List.mem_singleton.1 hx, R_eq]; exact ht) (by simp)
  simpa using this

theorem OwnU.empty (w : World) : OwnU w.heap.size (w.alloc (.cells #[] 53)) (.slice (some ⟨w.heap.size, 0, none⟩) 0 0) [] :=
  World.ownsRow_lit w #[] 0 (Nat.le_refl _) (Nat.zero_le _) rfl

theorem OwnU.keep {n₀ : Nat} {W W' : World} {v : Value} {gs : List Nat} (h : OwnU n₀ W v gs) (hb : Below W.heap.size W W') : OwnU n₀ W' v gs := ownsRow_keep h hb

/-- A list with one more behind its end: its front, the one more, its room. -/
theorem OwnU.front {n₀ : Nat} {W : World} {v : Value} {xs : List Nat} {t : Nat} (h : OwnU n₀ W v (xs ++ [t])) (hs : Small R xs) (hl : xs.length ≤ 1048576) :
    ∃ g cap, v = .slice (some ⟨g, 0, none⟩) (xs.length + 1) cap ∧ n₀ ≤ g ∧ g < W.heap.size ∧ xs.length + 1 ≤ cap ∧ cap ≤ 9223372036854775807 := by
  rcases h.2 with ⟨_, h0⟩ | ⟨g, cap, cur, rfl, hg, hh, hn, hm, hc, ht⟩
  · simp at h0
  · refine ⟨g, cap, by simp, hg, (Array.getElem?_eq_some_iff.1 hh).1, by simpa using hn, by simpa [maxLen] using hm⟩

theorem OwnU.cell {n₀ : Nat} {W : World} {g cap n : Nat} {gs : List Nat} (h : OwnU n₀ W (.slice (some ⟨g, 0, none⟩) n cap) gs) {j : Nat} (hj : j < gs.length) : W.cell? ⟨g, j, none⟩ = some (.int .u32 ((nth gs j : Nat) : Int)) := by
  have hn : n = gs.length := h.len
  subst hn
  have := World.ownsRow.cellAt (show W.ownsRow n₀ 53 1 (.slice (some ⟨g, 0, none⟩) gs.length cap) gs.length (u32s gs) from h) j (by omega)
  rw [this, nth_eq hj]
  simp [u32s, hj]

theorem OwnU.limbsFront {n₀ : Nat} {W : World} {g cap n : Nat} {xs : List Nat} {t : Nat} (h : OwnU n₀ W (.slice (some ⟨g, 0, none⟩) n cap) (xs ++ [t])) (hs : Small R xs) (hl : xs.length ≤ 1048576) (hc : xs.length + 1 ≤ cap) :
    Limbs W (.slice (some ⟨g, 0, none⟩) xs.length cap) xs := by
  refine ⟨some ⟨g, 0, none⟩, cap, rfl, by omega, by omega, hs, fun j hj => ⟨g, 0, rfl, ?_⟩⟩
  rw [Nat.zero_add, h.cell (by simp; omega)]
  unfold nth
  rw [List.getElem?_append_left hj]

theorem OwnU.cellLast {n₀ : Nat} {W : World} {g cap n : Nat} {xs : List Nat} {t : Nat} (h : OwnU n₀ W (.slice (some ⟨g, 0, none⟩) n cap) (xs ++ [t])) : W.cell? ⟨g, xs.length, none⟩ = some (.int .u32 (t : Int)) := by
  rw [h.cell (by simp)]
  unfold nth
  simp

end Go.Proofs.YtkdhcpfmlelfcaaDoor
