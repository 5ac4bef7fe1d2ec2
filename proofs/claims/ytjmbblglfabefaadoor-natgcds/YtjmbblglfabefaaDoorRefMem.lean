/- The reference's numbers: slices of decimal digits, the lowest first; what append leaves of them. -/
import Derived.Test.YtjmbblglfabefaaDoorText2
namespace Go.Proofs.YtjmbblglfabefaaDoor
set_option linter.unusedVariables false
set_option linter.unusedSimpArgs false
open Go Go.RowKit Go.Shelf

theorem ten_pos : 0 < 10 := by decide

theorem infoI64 : (Tryd.prog.info? 3).map (fun i => (i.zero, i.size, i.bytes)) = some (some (.int .i64 0), 1, 8) := by kernel_rfl

def dcells (ds : List Nat) : List Value := ds.map (fun z : Nat => Value.int .i64 (z : Int))

theorem dcells_length (ds : List Nat) : (dcells ds).length = ds.length := by simp [dcells]

/-- The slice value v holds the digits ds. -/
def Digs (W : World) (v : Value) (ds : List Nat) : Prop :=
  ∃ ao cap, v = .slice ao ds.length cap ∧ ds.length ≤ cap ∧ Small 10 ds ∧ ∀ j, j < ds.length → ∃ b off, ao = some ⟨b, off, none⟩ ∧ W.cell? ⟨b, off + j, none⟩ = some (.int .i64 ((nth ds j : Nat) : Int))

theorem Digs.below {W W' : World} {v : Value} {ds : List Nat} (h : Digs W v ds) (hb : Below W.heap.size W W') : Digs W' v ds := by
  obtain ⟨ao, cap, rfl, h1, h3, h4⟩ := h
  refine ⟨ao, cap, rfl, h1, h3, fun j hj => ?_⟩
  obtain ⟨b, off, e, hc⟩ := h4 j hj
  exact ⟨b, off, e, (hb.cell (p := ⟨b, off + j, none⟩) (block_lt_of_cell hc)).trans hc⟩

theorem Digs.nil (W : World) : Digs W (.slice none 0 0) [] := ⟨none, 0, rfl, Nat.le_refl _, Small.nil _, fun j hj => by simp at hj⟩

theorem Digs.small {W : World} {v : Value} {ds : List Nat} (h : Digs W v ds) : Small 10 ds := by
  obtain ⟨ao, cap, e, _, h, _⟩ := h; exact h

theorem Digs.len {W : World} {v : Value} {ds : List Nat} (h : Digs W v ds) : ∃ ao cap, v = .slice ao ds.length cap := by
  obtain ⟨ao, cap, e, _⟩ := h; exact ⟨ao, cap, e⟩

theorem Digs.cells {W : World} {ao : Option Addr} {n cap : Nat} {ds : List Nat} (h : Digs W (.slice ao n cap) ds) : ∀ j, j < ds.length → ∃ b off, ao = some ⟨b, off, none⟩ ∧ W.cell? ⟨b, off + j, none⟩ = some (.int .i64 ((nth ds j : Nat) : Int)) := by
  obtain ⟨ao', cap', e, _, _, h⟩ := h
  cases e
  exact h

/-- Digits that the call has gathered in memory of its own. -/
def Own (n₀ : Nat) (W : World) (v : Value) (ds : List Nat) : Prop := W.ownsRow n₀ 3 1 v ds.length (dcells ds)

theorem Own.nil (n₀ : Nat) (W : World) : Own n₀ W (.slice none 0 0) [] := World.ownsRow_nil _ _ _ _

theorem Own.digs {n₀ : Nat} {W : World} {v : Value} {ds : List Nat} (h : Own n₀ W v ds) (hs : Small 10 ds) : Digs W v ds := by
  rcases h.2 with ⟨rfl, h0⟩ | ⟨g, cap, cur, rfl, hg, hh, hn, hm, hc, ht⟩
  · have : ds = [] := List.eq_nil_of_length_eq_zero h0
    subst this
    exact Digs.nil W
  · refine ⟨some ⟨g, 0, none⟩, cap, rfl, hn, hs, fun j hj => ⟨g, 0, rfl, ?_⟩⟩
    have := World.ownsRow.cellAt (show W.ownsRow n₀ 3 1 (.slice (some ⟨g, 0, none⟩) ds.length cap) ds.length (dcells ds) from h) j (by omega)
    rw [Nat.zero_add, this, nth_eq hj]
    simp [dcells, hj]

theorem Own.keep {n₀ : Nat} {W W' : World} {v : Value} {ds : List Nat} (h : Own n₀ W v ds) (hb : Below W.heap.size W W') : Own n₀ W' v ds := ownsRow_keep h hb

/-- What an append of one digit leaves. -/
theorem Own.pushed {n₀ : Nat} {w wr w1 : World} {v v' : Value} {ds : List Nat} {o : Obj} {d : Nat} (h : Own n₀ wr v ds) (hB : Below w.heap.size w wr) (hn : w.heap.size ≤ n₀) (hn2 : n₀ ≤ wr.heap.size)
    (hown : w1.ownsRow n₀ 3 1 v' (ds.length + 1) (dcells ds ++ [.int .i64 (d : Int)])) (hg : (wr.alloc o).grownBy w1 v.ownBlock) :
    Own n₀ w1 v' (ds ++ [d]) ∧ Below w.heap.size w w1 ∧ n₀ ≤ w1.heap.size := by
  refine ⟨?_, ?_, ?_⟩
  · unfold Own
    have e1 : (ds ++ [d]).length = ds.length + 1 := by simp
    have e2 : dcells (ds ++ [d]) = dcells ds ++ [.int .i64 (d : Int)] := by simp [dcells]
    rw [e1, e2]
    exact hown
  · exact (hB.alloc hB.size o).grown hg (by simp; have := hB.size; omega) (fun j hj => by have := (h.lt j hj).1; omega)
  · have := hg.size
    simp at this
    omega

end Go.Proofs.YtjmbblglfabefaaDoor
