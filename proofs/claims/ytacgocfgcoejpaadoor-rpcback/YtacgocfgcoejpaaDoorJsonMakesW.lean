/- JsonMakes: the walk. -/
import Derived.Test.YtacgocfgcoejpaaDoorJMade3
namespace Go.Proofs.YtacgocfgcoejpaaDoor
set_option linter.unusedVariables false
set_option linter.unusedSimpArgs false
set_option maxRecDepth 100000
open Go Go.RowKit Go.Shelf Go.Lib

def nthS (K : List ByteArray) (j : Nat) : ByteArray := K[j]?.getD ⟨#[]⟩
/-- Strings that came in. -/
def StrsIn (W : World) (v : Value) (K : List ByteArray) : Prop := ∃ ao cap, v = .slice ao K.length cap ∧ ∀ j, j < K.length → ∃ b off, ao = some ⟨b, off, none⟩ ∧ W.cell? ⟨b, off + j, none⟩ = some (.string (nthS K j))
theorem StrsIn.below {W W' : World} {v : Value} {K : List ByteArray} (h : StrsIn W v K) (hb : Below W.heap.size W W') : StrsIn W' v K := by
  obtain ⟨ao, cap, h1, h3⟩ := h
  refine ⟨ao, cap, h1, fun j hj => ?_⟩
  obtain ⟨b, off, h4, h5⟩ := h3 j hj
  exact ⟨b, off, h4, (hb.cell (p := ⟨b, off + j, none⟩) (block_lt h5)).trans h5⟩
/-- The pairs that are made. -/
def prs (K : List ByteArray) : List (ByteArray × ByteArray) := (List.range K.length).map (fun j => (nthS K j, smallS j))
theorem prs_len (K : List ByteArray) : (prs K).length = K.length := by simp [prs]
theorem prs_get {K : List ByteArray} {i : Nat} (h : i < K.length) : (prs K)[i]? = some (nthS K i, smallS i) := by simp [prs, h]

/-- Appending a pair to one's own, in a region that draws. -/
theorem wp_appP (w : World) {o : Oper} {a : Act} {K : Act → World → Prop} {Q : Exit → Act → World → Prop} (s x : Operand)
    (ho : o.op = .call { callee := .builtin .append, args := #[s, x], argTypes := #[98, 98] })
    (n₀ : Nat) (v : Value) (P : List (ByteArray × ByteArray)) (hs : a.eval s = v) (hown : OwnP n₀ w v P) (b c : Nat) (y : ByteArray × ByteArray) (hx : a.eval x = .slice (some ⟨b, 0, none⟩) 1 c) (hl : BoxC w b 80 (pcell y).toArray) (hsum : P.length ≤ 1000000) (hbase : n₀ ≤ w.heap.size)
    (h : ∀ v' w', OwnP n₀ w' v' (P ++ [y]) → w.grownBy w' v.ownBlock → K (a.put o.dst v') w') : o.wp Tryd.prog a w K Q := by
  obtain ⟨i0, hi, hz0, hz1, hz2⟩ := info_parts infoPair
  obtain ⟨v', w', hr, h2, h3', _, h5⟩ := run_append_own_at (P := Tryd.prog) w n₀ 98 o.type 80 i0 _ 5 88 Tryd.underlying98 hi hz0 hz1 hz2 rfl (by decide) v P.length (pcells P) hown ⟨b, 0, none⟩ 1 c (pcell y) rfl (by
      intro j u hj
      have := hl.cell j
      rw [addr_plus, Nat.zero_add, this]
      simpa using hj) (by
      intro u hu
      simp only [pcell, List.mem_cons, List.not_mem_nil, or_false] at hu
      rcases hu with rfl | rfl | rfl | rfl | rfl <;> rfl) (by unfold maxLen; omega) (by omega) hbase
  have h2' : OwnP n₀ w' v' (P ++ [y]) := by
    unfold OwnP
    rw [List.length_append, pcells_append]
    exact h2
  unfold Oper.wp execOp
  simp only [ho, resolve, invoke, builtin, Sem.run_bind, Sem.run_pure, Result.andThen_ok, List.map_toArray, List.map_cons, List.map_nil, hs, hx, hr]
  exact h v' w' h2' h3'

end Go.Proofs.YtacgocfgcoejpaaDoor
