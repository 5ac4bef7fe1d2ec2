/- Json: rows of the reference's values, in a row of one's own. -/
import Derived.Test.YtacgocfgcoejpaaDoorJLight
namespace Go.Proofs.YtacgocfgcoejpaaDoor
set_option linter.unusedVariables false
set_option linter.unusedSimpArgs false
set_option maxRecDepth 100000
open Go Go.RowKit Go.Shelf Go.Lib

/-- Values in a row of one's own. -/
def OwnQ (n₀ : Nat) (W : World) (v : Value) (M : List JC) : Prop := W.ownsRow n₀ 51 4 v M.length (vcells M)
theorem infoQ : (Tryd.prog.info? 51).map (fun i => (i.zero, i.size, i.bytes)) = some (some (.agg #[.int .i64 0, .string ⟨#[]⟩, .slice none 0 0, .slice none 0 0]), 4, 72) := by kernel_rfl
theorem ownQ_nil (n₀ : Nat) (W : World) : OwnQ n₀ W (.slice none 0 0) [] := World.ownsRow_nil _ _ _ _
theorem OwnQ.slice {n₀ : Nat} {w : World} {v : Value} {M : List JC} (h : OwnQ n₀ w v M) : ∃ ao n c, v = .slice ao n c := by
  rcases id h.2 with ⟨rfl, h0⟩ | ⟨g, cap, cur, rfl, hg, hh, hn, hm, hc, ht⟩
  · exact ⟨none, 0, 0, rfl⟩
  · exact ⟨_, _, _, rfl⟩
/-- Its length, whatever it is. -/
theorem OwnQ.len {n₀ : Nat} {w : World} {v : Value} {M : List JC} (h : OwnQ n₀ w v M) : ∃ ao c, v = .slice ao M.length c ∧ M.length ≤ c := by
  rcases id h.2 with ⟨rfl, h0⟩ | ⟨g, cap, cur, rfl, hg, hh, hn, hm, hc, ht⟩
  · exact ⟨none, 0, by rw [h0], by rw [h0]; exact Nat.le_refl _⟩
  · exact ⟨_, _, rfl, hn⟩
theorem OwnQ.keep {n₀ : Nat} {w w' : World} {v : Value} {M : List JC} (h : OwnQ n₀ w v M) (k : ∀ j, v.ownBlock = some j → w'.heap[j]? = w.heap[j]?) : OwnQ n₀ w' v M := by
  rcases id h.2 with ⟨rfl, h0⟩ | ⟨g, cap, cur, rfl, hg, hh, hn, hm, hc, ht⟩
  · exact ⟨h.1, .inl ⟨rfl, h0⟩⟩
  · exact ⟨h.1, .inr ⟨g, cap, cur, rfl, hg, by rw [k g rfl, hh], hn, hm, hc, ht⟩⟩
theorem OwnQ.lt {n₀ : Nat} {w : World} {v : Value} {M : List JC} (h : OwnQ n₀ w v M) : ∀ j, v.ownBlock = some j → n₀ ≤ j ∧ j < w.heap.size := World.ownsRow.lt h
theorem OwnQ.mono {n m : Nat} {w : World} {v : Value} {M : List JC} (h : OwnQ m w v M) (k : n ≤ m) : OwnQ n w v M := by
  rcases id h.2 with ⟨rfl, h0⟩ | ⟨g, cap, cur, rfl, hg, hh, hn, hm, hc, ht⟩
  · exact ⟨h.1, .inl ⟨rfl, h0⟩⟩
  · exact ⟨h.1, .inr ⟨g, cap, cur, rfl, Nat.le_trans k hg, hh, hn, hm, hc, ht⟩⟩
theorem OwnQ.off {n₀ B : Nat} {w : World} {v : Value} {M : List JC} (h : OwnQ n₀ w v M) (hB : B < n₀) : v.ownBlock ≠ some B := fun e => by
  have := (h.lt B e).1
  omega
theorem OwnQ.set {n₀ B i : Nat} {w : World} {v x : Value} {M : List JC} (h : OwnQ n₀ w v M) (hB : v.ownBlock ≠ some B) : OwnQ n₀ (w.setCell ⟨B, i, none⟩ x) v M := h.keep fun j e => Below.heap_setCell w ⟨B, i, none⟩ x j (fun q => hB (by rw [e, q]))
/-- The block of a row of values is no other kind of block. -/
theorem OwnQ.ne {n₀ B : Nat} {w : World} {v : Value} {M : List JC} {t : TypeId} {cs : Array Value} (h : OwnQ n₀ w v M) (hb : BoxC w B t cs) (ht : t ≠ 51) : v.ownBlock ≠ some B := by
  intro e
  obtain ⟨c, fz, hk⟩ := Lib.ownsRow_kind h B e
  rw [show w.heap[B]? = _ from hb] at hk
  cases hk
  exact ht rfl
theorem OwnQ.cell {n₀ : Nat} {w : World} {ao : Option Addr} {n c : Nat} {M : List JC} (h : OwnQ n₀ w (.slice ao n c) M) {i : Nat} {x : JC} (hx : M[i]? = some x) : ∃ g, ao = some ⟨g, 0, none⟩ ∧ ∀ r, r < 4 → w.cell? ⟨g, i * 4 + r, none⟩ = (vcell x)[r]? := by
  have hi : i < M.length := (List.getElem?_eq_some_iff.1 hx).1
  rcases id h.2 with ⟨hv, h0⟩ | ⟨g, cap, cur, hv, hg, hh, hn, hm, hc, ht⟩
  · omega
  · cases hv
    refine ⟨g, rfl, fun r hr => ?_⟩
    have h1 := World.ownsRow.cellAt h (j := i * 4 + r) (by omega)
    rw [h1]
    have key : ∀ (M : List JC) (i : Nat), M[i]? = some x → (vcells M)[i * 4 + r]? = (vcell x)[r]? := by
      intro M
      induction M with
      | nil => intro i h; simp at h
      | cons a l ih =>
        intro i h
        have e : vcells (a :: l) = vcell a ++ vcells l := rfl
        have hl : (vcell a).length = 4 := rfl
        cases i with
        | zero =>
          simp at h
          subst h
          rw [e, Nat.zero_mul, Nat.zero_add, List.getElem?_append_left (by omega)]
        | succ i =>
          rw [e, List.getElem?_append_right (by omega), hl, show (i + 1) * 4 + r - 4 = i * 4 + r by omega]
          exact ih i (by simpa using h)
    exact key M i hx

/-- Appending values to one's own, in a region that draws. -/
theorem wp_appQ (w : World) {o : Oper} {a : Act} {K : Act → World → Prop} {Q : Exit → Act → World → Prop} (s x : Operand)
    (ho : o.op = .call { callee := .builtin .append, args := #[s, x], argTypes := #[49, 49] })
    (n₀ : Nat) (v : Value) (M : List JC) (hs : a.eval s = v) (hown : OwnQ n₀ w v M) (b c : Nat) (y : JC) (hx : a.eval x = .slice (some ⟨b, 0, none⟩) 1 c) (hl : BoxC w b 51 (vcell y).toArray) (h1 : y.2.2.1.oneCell' = true ∧ y.2.2.2.oneCell' = true) (hsum : M.length ≤ 1000000000) (hbase : n₀ ≤ w.heap.size)
    (h : ∀ v' w', OwnQ n₀ w' v' (M ++ [y]) → w.grownBy w' v.ownBlock → (v'.ownBlock = v.ownBlock ∨ v'.ownBlock = some w.heap.size) → K (a.put o.dst v') w') : o.wp Tryd.prog a w K Q := by
  obtain ⟨i0, hi, hz0, hz1, hz2⟩ := info_parts infoQ
  obtain ⟨v', w', hr, h2, h3', _, h5⟩ := run_append_own_at (P := Tryd.prog) w n₀ 49 o.type 51 i0 _ 4 72 Tryd.underlying49 hi hz0 hz1 hz2 rfl (by decide) v M.length (vcells M) hown ⟨b, 0, none⟩ 1 c (vcell y) rfl (by
      intro j u hj
      have := hl.cell j
      rw [addr_plus, Nat.zero_add, this]
      simpa using hj) (by
      intro u hu
      simp only [vcell, List.mem_cons, List.not_mem_nil, or_false] at hu
      rcases hu with rfl | rfl | rfl | rfl
      · rfl
      · rfl
      · exact h1.1
      · exact h1.2) (by unfold maxLen; omega) (by omega) hbase
  have h2' : OwnQ n₀ w' v' (M ++ [y]) := by
    unfold OwnQ
    rw [List.length_append, vcells_append]
    exact h2
  unfold Oper.wp execOp
  simp only [ho, resolve, invoke, builtin, Sem.run_bind, Sem.run_pure, Result.andThen_ok, List.map_toArray, List.map_cons, List.map_nil, hs, hx, hr]
  exact h v' w' h2' h3' h5

theorem results_rv {fn : Func} {i : Tmp} (h : fn.results = #[.cell i 51]) {tmps : Array Value} {W : World} {b : Nat} {x y z u : Value} {t : TypeId} (hp : tmps.getD i undef = .pointer (some ⟨b, 0, none⟩)) (T : BoxC W b t #[x, y, z, u]) :
    (results fn tmps).run Tryd.prog W = .ok (.agg #[x, y, z, u]) W := by
  have c0 : W.cell? ⟨b, 0, none⟩ = some x := T.cell 0
  have c1 : W.cell? ⟨b, 1, none⟩ = some y := T.cell 1
  have c2 : W.cell? ⟨b, 2, none⟩ = some z := T.cell 2
  have c3 : W.cell? ⟨b, 3, none⟩ = some u := T.cell 3
  have hp' : tmps[i]?.getD undef = .pointer (some ⟨b, 0, none⟩) := by simpa using hp
  simp [results, h, hp', go_sem, c0, c1, c2, c3]

end Go.Proofs.YtacgocfgcoejpaaDoor
