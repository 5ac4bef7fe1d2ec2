/- Worlds that part in one block alone: what a call that writes into one block of its caller leaves. -/
import Derived.Test.YtjmbblglfabefaaDoorRows2
namespace Go.Proofs.YtjmbblglfabefaaDoor
set_option linter.unusedVariables false
set_option linter.unusedSimpArgs false
open Go Go.RowKit Go.Shelf

/-- Of what lay in W nothing but block g has turned. -/
structure But (g : Nat) (W W' : World) : Prop where
  os : W'.os = W.os
  tape : W'.tape = W.tape
  output : W'.output = W.output
  size : W.heap.size ≤ W'.heap.size
  block : ∀ k, k < W.heap.size → k ≠ g → W'.heap[k]? = W.heap[k]?

theorem But.refl (g : Nat) (W : World) : But g W W := ⟨rfl, rfl, rfl, Nat.le_refl _, fun _ _ _ => rfl⟩

theorem But.trans {g : Nat} {A B C : World} (h : But g A B) (k : But g B C) : But g A C :=
  ⟨k.os.trans h.os, k.tape.trans h.tape, k.output.trans h.output, Nat.le_trans h.size k.size, fun i hi hn => (k.block i (Nat.lt_of_lt_of_le hi h.size) hn).trans (h.block i hi hn)⟩

theorem But.of_below {g : Nat} {W W' : World} (h : Below W.heap.size W W') : But g W W' := ⟨h.os, h.tape, h.output, h.size, fun k hk _ => h.block k hk⟩

theorem But.setCell {g : Nat} {A W : World} (h : But g A W) {p : Addr} (hp : p.block = g) (u : Value) : But g A (W.setCell p u) :=
  h.trans ⟨rfl, rfl, rfl, by simp [World.setCell], fun k _ hk => heap_setCell_other W p k u (by rw [hp]; exact hk)⟩

/-- A store into a block that did not lie in A. -/
theorem But.setNew {g : Nat} {A W : World} (h : But g A W) {p : Addr} (hp : A.heap.size ≤ p.block) (u : Value) : But g A (W.setCell p u) :=
  ⟨h.os, h.tape, h.output, by simp [World.setCell]; exact h.size, fun k hk hn => (heap_setCell_other W p k u (by omega)).trans (h.block k hk hn)⟩

theorem But.alloc {g : Nat} {A W : World} (h : But g A W) (o : Obj) : But g A (W.alloc o) :=
  ⟨h.os, h.tape, h.output, by simp; exact Nat.le_succ_of_le h.size, fun k hk hn => (Below.heap_alloc W o k (Nat.lt_of_lt_of_le hk h.size)).trans (h.block k hk hn)⟩

theorem But.drew {g : Nat} {A W : World} (h : But g A W) : But g A W.drew := ⟨h.os, h.tape, h.output, h.size, h.block⟩

theorem But.drewN {g : Nat} {A W : World} (h : But g A W) (n : Nat) : But g A (W.drewN n) := h.trans (But.of_below (below_drewN (Below.refl _ _) n))

theorem But.below {g B : Nat} {W W' : World} (h : But g W W') (hB : B ≤ g) (hW : B ≤ W.heap.size) : Below B W W' := ⟨h.os, h.tape, h.output, h.size, fun k hk => h.block k (by omega) (by omega)⟩

theorem Row.but {W W' : World} {g k : Nat} {zs : List Nat} (h : Row W k zs) (hb : But g W W') (hk : k ≠ g) : Row W' k zs := (hb.block k h.lt hk).trans h

theorem boxed_but {W W' : World} {g B : Nat} {t : TypeId} {v : Value} (h : Boxed W B t v) (hb : But g W W') (hk : B ≠ g) : Boxed W' B t v := (hb.block B h.lt hk).trans h

theorem boxed_keep {W W' : World} {B : Nat} {t : TypeId} {v : Value} (h : Boxed W B t v) (hb : Below W.heap.size W W') : Boxed W' B t v := (hb.block B h.lt).trans h

theorem cell_but {W W' : World} {g : Nat} (hb : But g W W') {p : Addr} {v : Value} (hp : p.block ≠ g) (h : W.cell? p = some v) : W'.cell? p = some v := (World.cell?_of_block (w := W) (hb.block p.block (block_lt_of_cell h) hp)).trans h

theorem below_undrew {B : Nat} {W W' : World} (h : Below B W.drew W') : Below B W W' := ⟨h.os, h.tape, h.output, h.size, h.block⟩

theorem own_exists {α : Type} {C : Nat} {I : α → Nat → World → Prop} (h : ∀ x, OwnFrom C (I x)) : OwnFrom C (fun k W => ∃ x, I x k W) := fun s W W' row ⟨x, hx⟩ hg hr => ⟨x, h x s W W' row hx hg hr⟩

theorem own_row (g C : Nat) (f : Nat → List Nat) : OwnFrom C (fun k W => Row W g (f k)) := fun s X Y row hs hg hr => by
  refine (hg.block g hs.lt (fun e => ?_)).trans hs
  obtain ⟨_, o, ho, hc⟩ := hr g e.symm
  rw [show X.heap[g]? = _ from hs] at ho
  cases ho
  cases hc

theorem own_but {g C : Nat} {w : World} (hC : w.heap.size ≤ C) : OwnFrom C (fun (_ : Nat) W => But g w W) := fun s X Y row hs hg hr =>
  ⟨hg.os.trans hs.os, hg.tape.trans hs.tape, hg.output.trans hs.output, Nat.le_trans hs.size hg.size, fun k hk hn => (hg.block k (Nat.lt_of_lt_of_le hk hs.size) (fun e => by have := (hr k e.symm).1; omega)).trans (hs.block k hk hn)⟩

theorem own_boxedf (B : Nat) (t : TypeId) (f : Nat → Value) (C : Nat) : OwnFrom C (fun k W => Boxed W B t (f k)) := Own.from (boxed_own B t f) C

/-- The turn of a block that is no cells. -/
theorem But.putObj {g D : Nat} {w W : World} (h : But g w W) (hD : w.heap.size ≤ D) (o : Obj) : But g w (W.putObj D o) :=
  ⟨h.os, h.tape, h.output, by have := (grownBy_putObj' W D o).size; exact Nat.le_trans h.size this, fun k hk hn => ((grownBy_putObj' W D o).block k (Nat.lt_of_lt_of_le hk h.size) (fun e => by cases e; omega)).trans (h.block k hk hn)⟩

theorem Row.putObj {W : World} {g D : Nat} {zs : List Nat} {o : Obj} (h : Row W g zs) (hK : W.heap[D]? = some o) (ho : o.isCells = false) (o' : Obj) : Row (W.putObj D o') g zs := by
  refine ((grownBy_putObj' W D o').block g h.lt (fun e => ?_)).trans h
  cases e
  rw [show W.heap[g]? = _ from h] at hK
  cases hK
  cases ho

end Go.Proofs.YtjmbblglfabefaaDoor
