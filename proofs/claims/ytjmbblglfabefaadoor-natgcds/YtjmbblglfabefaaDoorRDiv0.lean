/- What the reference's DivMod works on: a block of digits, written in place; its reckoning. -/
import Derived.Test.YtjmbblglfabefaaDoorRSub
namespace Go.Proofs.YtjmbblglfabefaaDoor
set_option linter.unusedVariables false
set_option linter.unusedSimpArgs false
open Go Go.RowKit Go.Shelf

/-- Block g holds the digits zs, and nothing else. -/
def RowI (W : World) (g : Nat) (zs : List Nat) : Prop := W.heap[g]? = some (.cells (dcells zs).toArray 3 (0, 0))

theorem RowI.lt {W : World} {g : Nat} {zs : List Nat} (h : RowI W g zs) : g < W.heap.size := (Array.getElem?_eq_some_iff.1 h).1

theorem RowI.cell {W : World} {g : Nat} {zs : List Nat} (h : RowI W g zs) {j : Nat} (hj : j < zs.length) : W.cell? ⟨g, j, none⟩ = some (.int .i64 ((nth zs j : Nat) : Int)) := by
  rw [cell_of_row W g j _ _ _ h, nth_eq hj]
  simp [dcells, hj]

theorem RowI.frozen {W : World} {g : Nat} {zs : List Nat} (h : RowI W g zs) (j : Nat) : W.frozen? ⟨g, j, none⟩ = false := frozen_of_row W g j _ _ h

theorem RowI.set {W : World} {g : Nat} {zs : List Nat} (h : RowI W g zs) (j v : Nat) : RowI (W.setCell ⟨g, j, none⟩ (.int .i64 (v : Int))) g (zs.set j v) := by
  unfold RowI
  rw [heap_setCell_same W g j _ _ _ h]
  simp [dcells, List.map_set]

theorem RowI.keep {W W' : World} {g : Nat} {zs : List Nat} (h : RowI W g zs) (hb : Below W.heap.size W W') : RowI W' g zs := (hb.block g h.lt).trans h

theorem RowI.digs {W : World} {g : Nat} {zs : List Nat} (h : RowI W g zs) (hs : Small 10 zs) : Digs W (.slice (some ⟨g, 0, none⟩) zs.length zs.length) zs :=
  ⟨some ⟨g, 0, none⟩, zs.length, rfl, Nat.le_refl _, hs, fun j hj => ⟨g, 0, rfl, by rw [Nat.zero_add]; exact h.cell hj⟩⟩

theorem run_mkI (n : Nat) (hn : n ≤ 1000000) (w : World) : ∃ w', (Instr.makeSlice 27 (.int .i64 (n : Int)) (.int .i64 (n : Int))).run Tryd.prog w = .ok (.slice (some ⟨w.heap.size, 0, none⟩) n n) w' ∧ RowI w' w.heap.size (List.replicate n 0) ∧ Below w.heap.size w w' ∧ w'.heap.size = w.heap.size + 1 := by
  obtain ⟨i0, hi, hz0, hz1, hz2⟩ := info_parts infoI64
  have hr := run_make (P := Tryd.prog) w 27 3 i0 _ Tryd.underlying27 hi hz0 .i64 .i64 n n (by omega) (Int.le_refl _) (by rw [hz2]; omega) (by omega)
  rw [Int.toNat_natCast, hz1] at hr
  refine ⟨_, hr, ?_, (Below.refl _ w).alloc (Nat.le_refl _) _, by simp⟩
  unfold RowI
  rw [World.alloc_heap_new]
  congr 1
  have : madeCells (Value.int .i64 0).cells (n * 1) = (dcells (List.replicate n 0)).toArray := by
    apply Array.ext'
    show (madeCells #[Value.int .i64 0] (n * 1)).toList = _
    rw [toList_madeCells_one]
    simp [dcells]
  rw [this]

theorem wpList_mkI {ops : Array Oper} {rest : List Oper} {o : Oper} {a : Act} {w : World} {Q : Exit → Act → World → Prop} (hg : o.guard = none) (x : Operand) (hop : o.op = .makeSlice 27 x x) (n : Nat) (hx : a.eval x = .int .i64 (n : Int)) (hn : n ≤ 1000000)
    (h : ∀ w', RowI w' w.heap.size (List.replicate n 0) → Below w.heap.size w w' → w'.heap.size = w.heap.size + 1 → wpList Tryd.prog ops Q rest (a.put o.dst (.slice (some ⟨w.heap.size, 0, none⟩) n n)) w') : wpList Tryd.prog ops Q (o :: rest) a w := by
  refine wpList_plain hg fun K hK => ?_
  obtain ⟨w', hrun, h2, h3, h4⟩ := run_mkI n hn w
  unfold Oper.wp
  simp [execOp, hop, hx, hrun, Result.andThen]
  exact hK _ _ (h w' h2 h3 h4)

theorem RNew.setBelow {n₀ : Nat} {W : World} {v : Value} {n g j : Nat} (h : RNew n₀ W v n) (hg : g < n₀) (u : Value) : RNew n₀ (W.setCell ⟨g, j, none⟩ u) v n := by
  obtain ⟨ds, h1, h2⟩ := h
  exact ⟨ds, ownsRow_setCell_below h1 hg u, h2⟩

theorem RNew.keep {n₀ : Nat} {W W' : World} {v : Value} {n : Nat} (h : RNew n₀ W v n) (hb : Below W.heap.size W W') : RNew n₀ W' v n := by
  obtain ⟨ds, h1, h2⟩ := h
  exact ⟨ds, h1.keep hb, h2⟩

theorem RNew.nil (n₀ : Nat) (W : World) : RNew n₀ W (.slice none 0 0) 0 := ⟨[], Own.nil _ _, canon_nil 10, rfl⟩

theorem add_new {W W' : World} {av bv : Value} {m n : Nat} (hb : Below W.heap.size W W') (hx : RArg W av m) (hy : RArg W bv n) :
    Calls Tryd.prog 31 #[av, bv] W' fun e w' => ∃ rv, e = .returned rv ∧ RNew W.heap.size w' rv (m + n) ∧ Below W.heap.size W w' := by
  obtain ⟨xs, h1, h2, rfl, h3⟩ := hx
  obtain ⟨ys, k1, k2, rfl, k3⟩ := hy
  refine (radd_calls W' av bv xs ys (h1.below hb) (k1.below hb) h3 k3).mono ?_
  rintro e w' ⟨rv, rfl, h4, h5⟩
  exact ⟨rv, rfl, h4.mono hb.size, hb.trans (h5.mono hb.size)⟩

/-- One digit more of the quotient. -/
theorem rdiv_step {zs : List Nat} {n r x c r' j X : Nat} (hj : j < zs.length) (hX : X = val 10 (zs.drop (j + 1)) * n + r) (hc : c * n + r' = r * 10 + x) :
    x + 10 * X = val 10 ((zs.set j c).drop j) * n + r' := by
  have e : (zs.set j c).drop j = c :: zs.drop (j + 1) := by
    rw [List.drop_eq_getElem_cons (by simpa using hj), List.drop_set_of_lt (by omega)]
    simp
  rw [e, val_cons, hX, Nat.add_mul, Nat.mul_add, Nat.mul_assoc]
  omega

theorem div_count {n r x c r' : Nat} (hr : r < n) (hx : x < 10) (hc : c * n + r' = r * 10 + x) : c < 10 := by
  apply Decidable.byContradiction
  intro h
  have h1 : 10 * n ≤ c * n := Nat.mul_le_mul_right _ (by omega)
  omega

end Go.Proofs.YtjmbblglfabefaaDoor
