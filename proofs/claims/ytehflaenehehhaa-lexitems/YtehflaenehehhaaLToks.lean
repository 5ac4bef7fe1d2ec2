/- A list of tokens in memory. -/
import Derived.Test.YtehflaenehehhaaLRName
namespace Go.Proofs.Ytehflaenehehhaa
set_option linter.unusedVariables false
set_option linter.unusedSimpArgs false
set_option maxRecDepth 100000
open Go Go.RowKit Go.Shelf Go.Lib

theorem infoTok : (Try.prog.info? 34).map (fun i => (i.zero, i.size, i.bytes)) = some (some (.agg #[.int .i64 0, .string ⟨#[]⟩, .int .i64 0, .int .i64 0]), 4, 40) := by kernel_rfl

/-- A token: its kind, where it begins, where it ends. -/
abbrev Tok := Int × Nat × Nat
def tokText (T : List Nat) (t : Tok) : ByteArray := strOf ((T.drop t.2.1).take (t.2.2 - t.2.1))
def tokCells (T : List Nat) (t : Tok) : List Value := [.int .i64 t.1, .string (tokText T t), .int .i64 (t.2.1 : Int), .int .i64 (t.2.2 : Int)]
def tkcells (T : List Nat) (L : List Tok) : List Value := L.flatMap (tokCells T)
theorem tkcells_snoc (T : List Nat) (L : List Tok) (t : Tok) : tkcells T (L ++ [t]) = tkcells T L ++ tokCells T t := by simp [tkcells]
theorem tkcells_length (T : List Nat) (L : List Tok) : (tkcells T L).length = L.length * 4 := by
  induction L with
  | nil => rfl
  | cons a l ih => simp only [tkcells, List.flatMap_cons, List.length_append, List.length_cons] at *; rw [ih]; simp [tokCells]; omega
/-- The tokens of the first k pieces. -/
def toksL (T : List Nat) : Nat → List Tok
  | 0 => []
  | k + 1 => toksL T k ++ if 0 < kindAt T (posP T k) then [(kindAt T (posP T k), posP T k, posP T (k + 1))] else []
theorem toksL_le (T : List Nat) (k : Nat) : (toksL T k).length ≤ k := by
  induction k with
  | zero => exact Nat.le_refl _
  | succ k ih =>
    unfold toksL
    rw [List.length_append]
    split <;> simp <;> omega

theorem toksL_zero (T : List Nat) : toksL T 0 = [] := rfl
theorem toksL_yes {T : List Nat} {k : Nat} (h : 0 < kindAt T (posP T k)) : toksL T (k + 1) = toksL T k ++ [(kindAt T (posP T k), posP T k, posP T (k + 1))] := by
  show toksL T k ++ _ = _
  rw [if_pos h]
theorem toksL_no {T : List Nat} {k : Nat} (h : ¬ 0 < kindAt T (posP T k)) : toksL T (k + 1) = toksL T k := by
  show toksL T k ++ _ = _
  rw [if_neg h, List.append_nil]

theorem ownsRow_keep {W W' : World} {base : Nat} {e : TypeId} {size : Nat} {v : Value} {n : Nat} {xs : List Value} (h : W.ownsRow base e size v n xs) (hb : Below W.heap.size W W') : W'.ownsRow base e size v n xs := by
  refine ⟨h.1, ?_⟩
  rcases h.2 with hn | ⟨g2, cap, cur, hv, h1, h2, h3⟩
  · exact .inl hn
  · exact .inr ⟨g2, cap, cur, hv, h1, (hb.block g2 (Array.getElem?_eq_some_iff.1 h2).1).trans h2, h3⟩
/-- A list of tokens that lies in a row of one's own. -/
def OwnT (n₀ : Nat) (W : World) (v : Value) (T : List Nat) (L : List Tok) : Prop := W.ownsRow n₀ 34 4 v L.length (tkcells T L)
theorem OwnT.keep {n₀ : Nat} {W W' : World} {v : Value} {T : List Nat} {L : List Tok} (h : OwnT n₀ W v T L) (hb : Below W.heap.size W W') : OwnT n₀ W' v T L := ownsRow_keep h hb
theorem OwnT.lt {n₀ : Nat} {W : World} {v : Value} {T : List Nat} {L : List Tok} (h : OwnT n₀ W v T L) {j : Nat} (hj : v.ownBlock = some j) : n₀ ≤ j ∧ j < W.heap.size := by
  rcases h.2 with ⟨rfl, _⟩ | ⟨g, cap, cur, rfl, hg, hh, _⟩
  · simp [Value.ownBlock] at hj
  · simp [Value.ownBlock] at hj
    subst hj
    exact ⟨hg, (Array.getElem?_eq_some_iff.1 hh).1⟩
theorem OwnT.set {n₀ : Nat} {W : World} {v : Value} {T : List Nat} {L : List Tok} (h : OwnT n₀ W v T L) {B : Nat} (hB : B < n₀) (u : Value) : OwnT n₀ (W.setCell ⟨B, 0, none⟩ u) v T L := by
  refine ⟨h.1, ?_⟩
  rcases h.2 with hn | ⟨g2, cap, cur, hv, h1, h2, h3⟩
  · exact .inl hn
  · exact .inr ⟨g2, cap, cur, hv, h1, (heap_setCell_other W ⟨B, 0, none⟩ g2 u (by simp; omega)).trans h2, h3⟩

theorem own_exists {β α : Type} {C : Nat} {I : α → β → World → Prop} (h : ∀ x, OwnFrom C (I x)) : OwnFrom C (fun k W => ∃ x, I x k W) := fun s W W' row ⟨x, hx⟩ hg hr => ⟨x, h x s W W' row hx hg hr⟩
theorem own_owns {β : Type} (base C : Nat) (e : TypeId) (size : Nat) (f : β → Value) (n : β → Nat) (xs : β → List Value) : OwnFrom C (fun k W => W.ownsRow base e size (f k) (n k) (xs k)) := fun s X Y row hs hg hr => by
  refine ⟨hs.1, ?_⟩
  rcases hs.2 with hn | ⟨g, cap, cur, hv, h1, h2, h3⟩
  · exact .inl hn
  · refine .inr ⟨g, cap, cur, hv, h1, (hg.block g (Array.getElem?_eq_some_iff.1 h2).1 (fun e => ?_)).trans h2, h3⟩
    obtain ⟨_, o, ho, hc⟩ := hr g e.symm
    rw [h2] at ho
    cases ho
    cases hc
theorem own_boxed {β : Type} (B : Nat) (t : TypeId) (f : β → Value) (C : Nat) : OwnFrom C (fun k W => Boxed W B t (f k)) := fun s X Y row (hs : Boxed X B t (f s)) hg hr =>
  (hg.block B (Array.getElem?_eq_some_iff.1 hs).1 (fun e' => by obtain ⟨_, o, ho, hc⟩ := hr B e'.symm; rw [show X.heap[B]? = _ from hs] at ho; cases ho; cases hc)).trans hs
theorem boxed_below {W W' : World} {B : Nat} {t : TypeId} {v : Value} (h : Boxed W B t v) (hb : Below W.heap.size W W') : Boxed W' B t v := (hb.block B (Array.getElem?_eq_some_iff.1 h).1).trans h
theorem boxed_other {W : World} {B C : Nat} {t : TypeId} {v : Value} (h : Boxed W B t v) (hne : B ≠ C) (u : Value) : Boxed (W.setCell ⟨C, 0, none⟩ u) B t v := (heap_setCell_other W ⟨C, 0, none⟩ B u hne).trans h

/-- A box of two cells. -/
def Box2 (W : World) (B : Nat) (t : TypeId) (u v : Value) : Prop := W.heap[B]? = some (.cells #[u, v] t (0, 0))
theorem Box2.lt {W : World} {B : Nat} {t : TypeId} {u v : Value} (h : Box2 W B t u v) : B < W.heap.size := (Array.getElem?_eq_some_iff.1 h).1
theorem Box2.below {W W' : World} {B : Nat} {t : TypeId} {u v : Value} (h : Box2 W B t u v) (hb : Below W.heap.size W W') : Box2 W' B t u v := (hb.block B h.lt).trans h
theorem Box2.cell0 {W : World} {B : Nat} {t : TypeId} {u v : Value} (h : Box2 W B t u v) : W.cell? ⟨B, 0, none⟩ = some u := by simp [World.cell?, show W.heap[B]? = _ from h]
theorem Box2.cell1 {W : World} {B : Nat} {t : TypeId} {u v : Value} (h : Box2 W B t u v) : W.cell? ⟨B, 1, none⟩ = some v := by simp [World.cell?, show W.heap[B]? = _ from h]
theorem Box2.other {W : World} {B C : Nat} {t : TypeId} {u v : Value} (h : Box2 W B t u v) (hne : B ≠ C) (x : Value) : Box2 (W.setCell ⟨C, 0, none⟩ x) B t u v := (heap_setCell_other W ⟨C, 0, none⟩ B x hne).trans h
theorem Box2.kept {W W' : World} {row : Option Nat} {B : Nat} {t : TypeId} {u v : Value} (h : Box2 W B t u v) (hg : W.grownBy W' row) (hne : some B ≠ row) : Box2 W' B t u v := (hg.block B h.lt hne).trans h
theorem own_box2 {β : Type} (B : β → Nat) (t : TypeId) (f g : β → Value) (C : Nat) : OwnFrom C (fun k W => Box2 W (B k) t (f k) (g k)) := fun s X Y row (hs : Box2 X (B s) t (f s) (g s)) hg hr =>
  hs.kept hg (fun e' => by obtain ⟨_, o, ho, hc⟩ := hr (B s) e'.symm; rw [show X.heap[B s]? = _ from hs] at ho; cases ho; cases hc)

end Go.Proofs.Ytehflaenehehhaa
