/- What lies in memory while Text joins its groups; a piece of text more. -/
import Derived.Test.YtjmbblglfabefaaDoorText3
import Derived.RangeFuncWrites
import Derived.Lib.OwnKind
namespace Go.Proofs.YtjmbblglfabefaaDoor
set_option linter.unusedVariables false
set_option linter.unusedSimpArgs false
open Go Go.RowKit Go.Shelf Go.Lib

/-- The boxes of the groups, the text and the iterator; the groups; the text so far. -/
def Holding (w : World) (q r gb gc : Nat) (gs : List Nat) (W : World) (tv : Value) (T : List UInt8) : Prop :=
  (Boxed W q 22 (.slice (some ⟨gb, 0, none⟩) gs.length gc) ∧ Boxed W r 65 tv ∧ Boxed W (r + 1) 22 (.slice (some ⟨gb, 0, none⟩) gs.length gc)) ∧
  (W.ownsRow (q + 1) 46 1 (.slice (some ⟨gb, 0, none⟩) gs.length gc) gs.length (u32s gs) ∧ W.ownsRow (r + 1 + 1) 5 1 tv T.length (cellsOf T)) ∧ Below w.heap.size w W

theorem ownsRow_at {W W' : World} {base gb gc : Nat} {e : TypeId} {size n : Nat} {xs : List Value} (h : W.ownsRow base e size (.slice (some ⟨gb, 0, none⟩) n gc) n xs) (hb : W'.heap[gb]? = W.heap[gb]?) : W'.ownsRow base e size (.slice (some ⟨gb, 0, none⟩) n gc) n xs := by
  refine ⟨h.1, ?_⟩
  rcases h.2 with hn | ⟨g2, cap, cur, hv, h1, h2, h3⟩
  · exact .inl hn
  · refine .inr ⟨g2, cap, cur, hv, h1, ?_, h3⟩
    injection hv with hv _ _
    injection hv with hv
    injection hv with hv _ _
    subst hv
    exact hb.trans h2

theorem ownsRow_keep' {W W' : World} {base : Nat} {e : TypeId} {size : Nat} {v : Value} {n : Nat} {xs : List Value} (h : W.ownsRow base e size v n xs) (hb : Below W.heap.size W W') : W'.ownsRow base e size v n xs := by
  refine ⟨h.1, ?_⟩
  rcases h.2 with hn | ⟨g2, cap, cur, hv, h1, h2, h3⟩
  · exact .inl hn
  · exact .inr ⟨g2, cap, cur, hv, h1, (hb.block g2 (Array.getElem?_eq_some_iff.1 h2).1).trans h2, h3⟩

theorem Holding.below {w W W' : World} {q r gb gc : Nat} {gs : List Nat} {tv : Value} {T : List UInt8} (h : Holding w q r gb gc gs W tv T) (hb : Below W.heap.size W W') : Holding w q r gb gc gs W' tv T := by
  obtain ⟨⟨h1, h2, h3⟩, ⟨h4, h5⟩, h6⟩ := h
  exact ⟨⟨boxed_keep h1 hb, boxed_keep h2 hb, boxed_keep h3 hb⟩, ⟨ownsRow_keep' h4 hb, ownsRow_keep' h5 hb⟩, h6.trans (hb.mono h6.size)⟩

theorem Holding.more {w W W' : World} {q r gb gc : Nat} {gs : List Nat} {tv v : Value} {T S : List UInt8} (h : Holding w q r gb gc gs W tv T) (hq : q < r) (hgb : gb < r) (hw : w.heap.size ≤ r)
    (ho : W'.ownsRow (r + 1 + 1) 5 1 v (T.length + S.length) (cellsOf T ++ cellsOf S)) (hg : W.grownBy W' tv.ownBlock) :
    Holding w q r gb gc gs (W'.setCell ⟨r, 0, none⟩ v) v (T ++ S) ∧ KeepsOthers W (W'.setCell ⟨r, 0, none⟩ v) := by
  obtain ⟨⟨h1, h2, h3⟩, ⟨h4, h5⟩, h6⟩ := h
  have hne : ∀ j, j < r + 1 + 1 → some j ≠ tv.ownBlock := fun j hj e => by have := (h5.lt _ e.symm).1; omega
  have hr := h2.lt
  have hr1 := h3.lt
  have k1 : Boxed W' q _ _ := (hg.block q (by omega) (hne _ (by omega))).trans h1
  have k2 : Boxed W' r _ _ := (hg.block r (by omega) (hne _ (by omega))).trans h2
  have k3 : Boxed W' (r + 1) _ _ := (hg.block (r + 1) (by omega) (hne _ (by omega))).trans h3
  have k4 := ownsRow_at h4 (hg.block gb (by omega) (hne _ (by omega)))
  have hs : ∀ j, j ≠ r → (W'.setCell ⟨r, 0, none⟩ v).heap[j]? = W'.heap[j]? := fun j hj => heap_setCell_other W' ⟨r, 0, none⟩ j v hj
  have k6 : Below w.heap.size w W' := ⟨hg.os.trans h6.os, hg.tape.trans h6.tape, hg.output.trans h6.output, Nat.le_trans h6.size hg.size, fun j hj => (hg.block j (by have := h6.size; omega) (hne _ (by omega))).trans (h6.block j hj)⟩
  refine ⟨⟨⟨(hs q (by omega)).trans k1, Boxed.set v k2, (hs (r + 1) (by omega)).trans k3⟩, ⟨ownsRow_at k4 (hs gb (by omega)), ?_⟩, k6.setCell (p := ⟨r, 0, none⟩) hw v⟩, ?_⟩
  · have := ownsRow_setCell_below ho (a := ⟨r, 0, none⟩) (by show r < r + 1 + 1; omega) v
    rw [List.length_append, cellsOf_append]
    exact this
  · refine (KeepsOthers.of_grownBy hg (fun j o hj ho => ?_)).trans (KeepsOthers.setCell _ _ _)
    obtain ⟨c, fz, hc⟩ := ownsRow_kind h5 j hj
    rw [hc] at ho
    cases ho
    rfl

end Go.Proofs.YtjmbblglfabefaaDoor
