/- The items of a text, collected. -/
import Derived.Test.YtehflaenehehhaaLClone
import Derived.Maps.AppendAt
namespace Go.Proofs.Ytehflaenehehhaa
set_option linter.unusedVariables false
set_option linter.unusedSimpArgs false
set_option maxRecDepth 100000
open Go Go.RowKit Go.Shelf Go.Lib

attribute [local go_sem] Oper.semAt_some

theorem infoSpan : (Try.prog.info? 32).map (fun i => (i.zero, i.size, i.bytes)) = some (some (.agg #[.int .i64 0, .int .i64 0]), 2, 16) := by kernel_rfl

/-- Append to a row of one's own: the row is that one still, or a new one. -/
theorem wpListIn_append_at {F : Fence} {n : Nat} {P : Program} (w : World) {ops : Array Oper} {rest : List Oper} {o : Oper} {a : Act} {Q : Exit → Act → World → Prop}
    (hg : o.guard = none) (s x : Operand) (t : TypeId) (hop : o.op = Op.call { callee := Callee.builtin Builtin.append, args := #[s, x], argTypes := #[t, t] })
    (base : Nat) (e : TypeId) (i : TypeInfo) (z : Value) (size bytes : Nat) (h1 : P.underlying t = some (.slice e)) (h2 : P.info? e = some i) (h3 : i.zero = some z) (h4 : i.size = size) (h5 : i.bytes = bytes) (h6 : z.cells.size = size) (h7 : 0 < size)
    (v : Value) (k : Nat) (xs : List Value) (hs : a.eval s = v) (hown : w.ownsRow base e size v k xs) (ad : Addr) (m c : Nat) (news : List Value) (hx : a.eval x = .slice (some ad) m c) (hn : news.length = m * size)
    (hc : ∀ j u, news[j]? = some u → w.cell? (ad.add j) = some u) (h1c : ∀ u ∈ news, u.oneCell' = true) (b1 : k + m ≤ maxLen) (b2 : (k + m) * bytes ≤ 140737488355328) (b3 : base ≤ w.heap.size)
    (hK : ∀ v' w', w'.ownsRow base e size v' (k + m) (xs ++ news) → w.grownBy w' v.ownBlock → (v'.ownBlock = v.ownBlock ∨ v'.ownBlock = some w.heap.size) → wpListIn F n P ops Q rest (a.put o.dst v') w') :
    wpListIn F n P ops Q (o :: rest) a w := by
  refine wpListIn_plain hg fun K hK' => ?_
  obtain ⟨v', w', hrun, r1, r2, _, r3⟩ := run_append_own_at (P := P) w base t o.type e i z size bytes h1 h2 h3 h4 h5 h6 h7 v k xs hown ad m c news hn hc h1c b1 b2 b3
  unfold Oper.wpIn
  refine ⟨?_, ?_⟩
  · simp [Oper.about, hop, resolve, Target.leads, Sem.run_pure]
  · rw [Oper.semAt_plain F _ _ (by rw [hop]; intro c hc'; cases hc')]
    simp [execOp, hop, resolve, invoke, builtin, hs, hx, hrun, Result.andThen]
    exact hK' _ _ (hK v' w' r1 r2 r3)

/-- Spans as cells. -/
def spCells (s : Nat × Nat) : List Value := [.int .i64 (s.1 : Int), .int .i64 (s.2 : Int)]
def scells (L : List (Nat × Nat)) : List Value := L.flatMap spCells
theorem scells_snoc (L : List (Nat × Nat)) (s : Nat × Nat) : scells (L ++ [s]) = scells L ++ spCells s := by simp [scells]
theorem scells_get : ∀ (L : List (Nat × Nat)) (j : Nat) (s : Nat × Nat), L[j]? = some s → ∀ i, i < 2 → (scells L)[j * 2 + i]? = (spCells s)[i]? := by
  intro L
  induction L with
  | nil => intro j t h; simp at h
  | cons a l ih =>
    intro j t h i hi
    have e : scells (a :: l) = spCells a ++ scells l := by simp [scells]
    have el : (spCells a).length = 2 := rfl
    rw [e]
    cases j with
    | zero =>
      simp at h
      subst h
      rw [List.getElem?_append_left (by omega)]
      congr 1
      omega
    | succ j =>
      rw [List.getElem?_append_right (by omega), el, show (j + 1) * 2 + i - 2 = j * 2 + i by omega]
      exact ih j t (by simpa using h) i hi
/-- A slice of spans: it holds these. -/
def SpansIn (W : World) (v : Value) (L : List (Nat × Nat)) : Prop := ∃ ao cap, v = .slice ao L.length cap ∧ L.length ≤ cap ∧ ∀ j s, L[j]? = some s → ∃ b, ao = some ⟨b, 0, none⟩ ∧ W.cell? ⟨b, j * 2, none⟩ = some (.int .i64 (s.1 : Int)) ∧ W.cell? ⟨b, j * 2 + 1, none⟩ = some (.int .i64 (s.2 : Int))
theorem SpansIn.below {W W' : World} {v : Value} {L : List (Nat × Nat)} (h : SpansIn W v L) (hb : Below W.heap.size W W') : SpansIn W' v L := by
  obtain ⟨ao, cap, h1, h2, h3⟩ := h
  refine ⟨ao, cap, h1, h2, fun j s hj => ?_⟩
  obtain ⟨b, e, c0, c1⟩ := h3 j s hj
  exact ⟨b, e, (hb.cell (p := ⟨b, j * 2, none⟩) (block_lt c0)).trans c0, (hb.cell (p := ⟨b, j * 2 + 1, none⟩) (block_lt c1)).trans c1⟩
theorem spansIn_of {n₀ : Nat} {W : World} {e : TypeId} {v : Value} {L : List (Nat × Nat)} (h : W.ownsRow n₀ e 2 v L.length (scells L)) : SpansIn W v L := by
  rcases h.2 with ⟨hv, hn⟩ | ⟨g, cap, cur, hv, hg, hh, hc1, hc2, hc3⟩
  · refine ⟨none, 0, by rw [hv, hn], by omega, fun j t hj => ?_⟩
    have : L = [] := List.length_eq_zero_iff.1 hn
    rw [this] at hj
    simp at hj
  · subst hv
    refine ⟨some ⟨g, 0, none⟩, cap, rfl, hc1, fun j t hj => ⟨g, rfl, ?_⟩⟩
    have hlt : j < L.length := (List.getElem?_eq_some_iff.1 hj).1
    have c := fun i hi => (h.cellAt (j * 2 + i) (by omega)).trans (scells_get L j t hj i hi)
    exact ⟨c 0 (by omega), c 1 (by omega)⟩

theorem itL_le (T : List Nat) (k : Nat) : (itL T k).length ≤ k := by
  induction k with
  | zero => exact Nat.le_refl _
  | succ k ih =>
    unfold itL
    rw [List.length_append]
    split <;> simp <;> omega
theorem itemsL_le (T : List Nat) (N : Nat) : (itemsL T N).length ≤ N + 1 := by
  unfold itemsL
  rw [List.length_append]
  have := itL_le T N
  split <;> simp <;> omega
theorem item_take {T : List Nat} {N k : Nat} (h : k < (itemsL T N).length) : (itemsL T N).take (k + 1) = (itemsL T N).take k ++ [itemAt T N k] := by
  rw [List.take_succ_eq_append_getElem h]
  unfold itemAt
  rw [List.getElem?_eq_getElem h]
  rfl

theorem own_slice {W : World} {n₀ : Nat} {e : TypeId} {size : Nat} {v : Value} {n : Nat} {xs : List Value} (h : W.ownsRow n₀ e size v n xs) : ∃ so sc, v = .slice so n sc := by
  rcases h.2 with ⟨hv, hn⟩ | ⟨g, cap, cur, hv, _⟩
  · exact ⟨none, 0, by rw [hv, hn]⟩
  · exact ⟨_, _, hv⟩

theorem ownsRow_set {W : World} {n₀ : Nat} {e : TypeId} {size : Nat} {v : Value} {n : Nat} {xs : List Value} (h : W.ownsRow n₀ e size v n xs) {B : Nat} (hB : B < n₀) (u : Value) : (W.setCell ⟨B, 0, none⟩ u).ownsRow n₀ e size v n xs := by
  refine ⟨h.1, ?_⟩
  rcases h.2 with hn | ⟨g2, cap, cur, hv, h1, h2, h3⟩
  · exact .inl hn
  · exact .inr ⟨g2, cap, cur, hv, h1, (heap_setCell_other W ⟨B, 0, none⟩ g2 u (by show g2 ≠ B; omega)).trans h2, h3⟩
theorem ownsRow_cells {W : World} {n₀ : Nat} {e : TypeId} {size : Nat} {v : Value} {n : Nat} {xs : List Value} (h : W.ownsRow n₀ e size v n xs) {j : Nat} {o : Obj} (hj : v.ownBlock = some j) (ho : W.heap[j]? = some o) : o.isCells = true := by
  rcases h.2 with ⟨rfl, _⟩ | ⟨g, cap, cur, rfl, hg, hh, _⟩
  · simp [Value.ownBlock] at hj
  · simp [Value.ownBlock] at hj
    subst hj
    rw [hh] at ho
    cases ho
    rfl
theorem box_no_byte {W : World} {B : Nat} {t : TypeId} {so : Option Addr} {n c : Nat} {i : Nat} {k : IntKind} {z : Int} (h : Boxed W B t (.slice so n c)) (hc : W.cell? ⟨B, i, none⟩ = some (.int k z)) : False := by
  rw [World.cell?, show W.heap[B]? = _ from h] at hc
  cases i with
  | zero => simp at hc
  | succ i => simp at hc

/-- What the collecting loop keeps. -/
def SpI (w : World) (s1 : Nat) (Bs : Nat) (ao : Option Addr) (cap : Nat) (T : List Nat) (N : Nat) (v : Value) (k : Nat) (Pv : Nat → Prop) (W : World) : Prop :=
  ((Boxed W (w.heap.size + 1) 39 v ∧ W.ownsRow s1 32 2 v ((itemsL T N).take k).length (scells ((itemsL T N).take k))) ∧ Boxed W w.heap.size 39 (.slice none 0 0) ∧ (∀ g, v.ownBlock = some g → ¬ Pv g)) ∧ PieceKnow Bs ao cap T W ∧ Below w.heap.size w W ∧ s1 ≤ W.heap.size

theorem byts_turn {D : Nat} {Pv : Nat → Prop} {W W' : World} {v : Value} {T : List Nat} (h : Byts W v T) (ht : Turn D Pv W W') (hp : 0 < T.length → ∀ ao cap, v = .slice ao T.length cap → ∀ b off, ao = some ⟨b, off, none⟩ → ¬ Pv b ∧ b < D) : Byts W' v T := by
  obtain ⟨ao, cap, e, h1, h2⟩ := h
  refine ⟨ao, cap, e, h1, fun j hj => ?_⟩
  obtain ⟨b, off, e2, hc⟩ := h2 j hj
  refine ⟨b, off, e2, ?_⟩
  obtain ⟨g1, g2⟩ := hp (by omega) ao cap e b off e2
  have hlt := block_lt hc
  have hb : W'.heap[b]? = W.heap[b]? := by
    rw [Array.getElem?_eq_getElem hlt]
    exact ht.block b _ (Array.getElem?_eq_getElem hlt) g1 (.inr g2)
  exact (World.cell?_of_block (w := W) (a := ⟨b, off + j, none⟩) hb).trans hc
theorem cell_turn {D : Nat} {Pv : Nat → Prop} {W W' : World} {b i : Nat} {v : Value} (h : W.cell? ⟨b, i, none⟩ = some v) (ht : Turn D Pv W W') (g1 : ¬ Pv b) (g2 : b < D) : W'.cell? ⟨b, i, none⟩ = some v := by
  have hlt := block_lt h
  have hb : W'.heap[b]? = W.heap[b]? := by
    rw [Array.getElem?_eq_getElem hlt]
    exact ht.block b _ (Array.getElem?_eq_getElem hlt) g1 (.inr g2)
  exact (World.cell?_of_block (w := W) (a := ⟨b, i, none⟩) hb).trans h
theorem below_turn {D n : Nat} {Pv : Nat → Prop} {w W W' : World} (h : Below n w W) (ht : Turn D Pv W W') (hn : n ≤ w.heap.size) (hD : n ≤ D) (hp : ∀ b, Pv b → n ≤ b) : Below n w W' :=
  ⟨ht.os.trans h.os, ht.tape.trans h.tape, ht.output.trans h.output, Nat.le_trans h.size ht.size, fun b hb => by
    have hlt : b < W.heap.size := by have := h.size; omega
    have e : W'.heap[b]? = W.heap[b]? := by
      rw [Array.getElem?_eq_getElem hlt]
      exact ht.block b _ (Array.getElem?_eq_getElem hlt) (fun e => by have := hp b e; omega) (.inr (by omega))
    exact e.trans (h.block b hb)⟩

end Go.Proofs.Ytehflaenehehhaa
