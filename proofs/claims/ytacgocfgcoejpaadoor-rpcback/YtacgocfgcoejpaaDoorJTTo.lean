/- Json: to: a tree, copied back. -/
import Derived.Test.YtacgocfgcoejpaaDoorJTOf
namespace Go.Proofs.YtacgocfgcoejpaaDoor
set_option linter.unusedVariables false
set_option linter.unusedSimpArgs false
set_option maxRecDepth 100000
open Go Go.RowKit Go.Shelf Go.Lib

/-- Where a tree of a call's own may lie. -/
def LiesV (N : Nat) (w : World) (lv : Value) (b : Nat) : Prop := (b < N ∨ w.heap.size + 3 ≤ b) ∧ lv.ownBlock ≠ some b
/-- A copy on its way. -/
structure OfJV (N : Nat) (w W : World) (k : Int) (s : ByteArray) (kv iv lv : Value) (L : List JT) (M : List JC) : Prop where
  inb : BoxC W w.heap.size 51 #[.int .i64 k, .string s, kv, iv]
  res : BoxC W (w.heap.size + 1) 25 #[.int .i64 0, .string ⟨#[]⟩, .slice none 0 0, .slice none 0 0]
  box : BoxC W (w.heap.size + 2) 25 #[.int .i64 k, .string s, kv, lv]
  vs : OwnV (w.heap.size + 3) W lv M
  low : Below w.heap.size w W
  ps : ∀ (q : Nat) (x : JC) (T : JT), M[q]? = some x → L[q]? = some T → TIn W (LiesV N w lv) x T ∧ IsSl x.2.2.1 ∧ IsSl x.2.2.2
theorem OfJV.below {N : Nat} {w W W' : World} {k : Int} {s : ByteArray} {kv iv lv : Value} {L : List JT} {M : List JC} (h : OfJV N w W k s kv iv lv L M) (hb : Below W.heap.size W W') : OfJV N w W' k s kv iv lv L M :=
  ⟨h.inb.below hb, h.res.below hb, h.box.below hb, h.vs.keep (fun j e => hb.block j (h.vs.lt j e).2), h.low.trans (hb.mono h.low.size), fun q x T hx hT => ⟨(h.ps q x T hx hT).1.bel hb, (h.ps q x T hx hT).2⟩⟩
theorem OfJV.put {N : Nat} {w W W' : World} {k : Int} {s : ByteArray} {kv iv lv lv' : Value} {L : List JT} {M : List JC} {y : JC} {T : JT} (h : OfJV N w W k s kv iv lv L M) (hN : N ≤ w.heap.size) (hg : W.grownBy W' lv.ownBlock) (ho : OwnV (w.heap.size + 3) W' lv' (M ++ [y])) (hrow : lv'.ownBlock = lv.ownBlock ∨ lv'.ownBlock = some W.heap.size)
    (hT : L[M.length]? = some T) (hy : TIn W (LiesV N w lv) y T) (hy2 : IsSl y.2.2.1) (hy3 : IsSl y.2.2.2) : OfJV N w (W'.setCell ⟨w.heap.size + 2, 3, none⟩ lv') k s kv iv lv' L (M ++ [y]) := by
  have n0 : some w.heap.size ≠ lv.ownBlock := fun e => by have := (h.vs.lt _ e.symm).1; omega
  have n1 : some (w.heap.size + 1) ≠ lv.ownBlock := fun e => by have := (h.vs.lt _ e.symm).1; omega
  have n2 : some (w.heap.size + 2) ≠ lv.ownBlock := fun e => by have := (h.vs.lt _ e.symm).1; omega
  have hkeep : ∀ b, LiesV N w lv b → b < W.heap.size → LiesV N w lv' b ∧ (W'.setCell ⟨w.heap.size + 2, 3, none⟩ lv').heap[b]? = W.heap[b]? := by
    intro b hs hlt
    obtain ⟨h1, h2⟩ := hs
    refine ⟨⟨h1, ?_⟩, ?_⟩
    · rcases hrow with e | e
      · rw [e]
        exact h2
      · rw [e]
        intro q
        simp only [Option.some.injEq] at q
        omega
    · rw [Below.heap_setCell W' ⟨w.heap.size + 2, 3, none⟩ lv' b (by simp only [ne_eq]; omega)]
      exact hg.block b hlt (fun q => h2 q.symm)
  refine ⟨(h.inb.kept hg n0).other (by omega) 3 lv', (h.res.kept hg n1).other (by omega) 3 lv', (h.box.kept hg n2).set 3 lv', ho.set (ho.off (by omega)), (h.low.grown hg h.low.size (fun j e => by have := (h.vs.lt j e).1; omega)).setCell (p := ⟨w.heap.size + 2, 3, none⟩) (by show w.heap.size ≤ w.heap.size + 2; omega) lv', ?_⟩
  intro q x T' hx hT'
  rcases Nat.lt_or_ge q M.length with hq | hq
  · rw [List.getElem?_append_left hq] at hx
    exact ⟨(h.ps q x T' hx hT').1.keep hkeep, (h.ps q x T' hx hT').2⟩
  · rw [List.getElem?_append_right hq] at hx
    obtain rfl : q = M.length := by
      have := (List.getElem?_eq_some_iff.1 hx).1
      simp at this
      omega
    simp at hx
    subst hx
    rw [hT] at hT'
    cases hT'
    exact ⟨hy.keep hkeep, hy2, hy3⟩

theorem OfJV.lies {N : Nat} {w W : World} {k : Int} {s : ByteArray} {kv iv lv : Value} {L : List JT} {M : List JC} (h : OfJV N w W k s kv iv lv L M) (hN : N ≤ w.heap.size) (b : Nat) (hb : b < N ∨ W.heap.size ≤ b) : LiesV N w lv b := by
  have hV := h.box.lt
  refine ⟨?_, fun e => ?_⟩
  · rcases hb with h | h
    · exact .inl h
    · exact .inr (by omega)
  · have := h.vs.lt b e
    rcases hb with h | h <;> omega
theorem OfJV.mid {N : Nat} {w W W' : World} {k : Int} {s : ByteArray} {kv iv lv : Value} {L : List JT} {M : List JC} (h : OfJV N w W k s kv iv lv L M) (hg : W.grownBy W' lv.ownBlock) : BoxC W' w.heap.size 51 #[.int .i64 k, .string s, kv, iv] ∧ Below w.heap.size w W' ∧ BoxC W' (w.heap.size + 2) 25 #[.int .i64 k, .string s, kv, lv] :=
  ⟨h.inb.kept hg (fun e => by have := (h.vs.lt _ e.symm).1; omega), h.low.grown hg h.low.size (fun j e => by have := (h.vs.lt j e).1; omega), h.box.kept hg (fun e => by have := (h.vs.lt _ e.symm).1; omega)⟩
theorem OfJV.tree {N : Nat} {w W : World} {k : Int} {s : ByteArray} {kv iv lv : Value} {K : List ByteArray} {L : List JT} {M : List JC} (h : OfJV N w W k s kv iv lv L M) (hM : M.length = L.length) (hN : N ≤ w.heap.size) (hK : StrsS w (fun b => b < N) kv K) (x' y' z' u' : Value) :
    TIn ((((W.setCell ⟨w.heap.size + 1, 0, none⟩ x').setCell ⟨w.heap.size + 1, 1, none⟩ y').setCell ⟨w.heap.size + 1, 2, none⟩ z').setCell ⟨w.heap.size + 1, 3, none⟩ u') (fun b => b < N ∨ w.heap.size ≤ b) (k, s, kv, lv) (.mk k s K L) := by
  obtain ⟨ya, yc, hlv, _⟩ := h.vs.len
  have hown := h.vs
  have hps := h.ps
  rw [hM] at hlv
  subst hlv
  have hk : ∀ b, b ≠ w.heap.size + 1 → ((((W.setCell ⟨w.heap.size + 1, 0, none⟩ x').setCell ⟨w.heap.size + 1, 1, none⟩ y').setCell ⟨w.heap.size + 1, 2, none⟩ z').setCell ⟨w.heap.size + 1, 3, none⟩ u').heap[b]? = W.heap[b]? := fun b hb => by
    rw [Below.heap_setCell _ ⟨w.heap.size + 1, 3, none⟩ u' b hb, Below.heap_setCell _ ⟨w.heap.size + 1, 2, none⟩ z' b hb, Below.heap_setCell _ ⟨w.heap.size + 1, 1, none⟩ y' b hb, Below.heap_setCell _ ⟨w.heap.size + 1, 0, none⟩ x' b hb]
  generalize ((((W.setCell ⟨w.heap.size + 1, 0, none⟩ x').setCell ⟨w.heap.size + 1, 1, none⟩ y').setCell ⟨w.heap.size + 1, 2, none⟩ z').setCell ⟨w.heap.size + 1, 3, none⟩ u') = W' at *
  have hex : ∀ i (h : i < L.length), M[i]? = some (M[i]'(by omega)) := fun i h => List.getElem?_eq_getElem (by omega)
  refine .mk k s kv ya yc K L (fun i => (M[i]?).getD (0, ⟨#[]⟩, kv, kv)) (hK.keep fun b hs hlt => ⟨.inl hs, (hk b (by omega)).trans (h.low.block b hlt)⟩) (fun i hi => ?_) (fun i hi => ?_) (fun i hi => ?_)
  · obtain ⟨g, hg, hcl⟩ := hown.cell (hex i hi)
    subst hg
    have hlow := (hown.lt g rfl).1
    refine ⟨g, 0, rfl, .inr (by omega), fun r hr => ?_⟩
    rw [hex i hi, Nat.zero_add]
    exact (World.cell?_of_block (a := ⟨g, i * 4 + r, none⟩) (hk g (by omega))).trans (hcl r hr)
  · rw [hex i hi]
    exact (hps i _ _ (hex i hi) (List.getElem?_eq_getElem hi)).2
  · rw [hex i hi]
    refine (hps i _ _ (hex i hi) (List.getElem?_eq_getElem hi)).1.keep fun b hs hlt => ⟨?_, hk b ?_⟩
    · rcases hs.1 with h | h
      · exact .inl h
      · exact .inr (by omega)
    · rcases hs.1 with h | h
      · omega
      · omega

/-- What it answers. -/
def OfRV (N : Nat) (w : World) (T : JT) (e : Ending) (w' : World) : Prop := ∃ x : JC, e = .returned (vagg x) ∧ Below w.heap.size w w' ∧ TIn w' (fun b => b < N ∨ w.heap.size ≤ b) x T ∧ IsSl x.2.2.1 ∧ IsSl x.2.2.2

end Go.Proofs.YtacgocfgcoejpaaDoor
