/- Json: Made, of pairs with numbers. -/
import Derived.Test.YtacgocfgcoejpaaDoorJMade
namespace Go.Proofs.YtacgocfgcoejpaaDoor
set_option linter.unusedVariables false
set_option linter.unusedSimpArgs false
set_option maxRecDepth 100000
open Go Go.RowKit Go.Shelf Go.Lib

/-- Strings in a row of one's own. -/
def OwnS (n₀ : Nat) (W : World) (v : Value) (K : List ByteArray) : Prop := W.ownsRow n₀ 9 1 v K.length (K.map Value.string)
theorem infoStr : (Tryd.prog.info? 9).map (fun i => (i.zero, i.size, i.bytes)) = some (some (.string ⟨#[]⟩), 1, 16) := by kernel_rfl
theorem ownS_nil (n₀ : Nat) (W : World) : OwnS n₀ W (.slice none 0 0) [] := World.ownsRow_nil _ _ _ _
theorem OwnS.lt {n₀ : Nat} {w : World} {v : Value} {K : List ByteArray} (h : OwnS n₀ w v K) : ∀ j, v.ownBlock = some j → n₀ ≤ j ∧ j < w.heap.size := World.ownsRow.lt h
theorem OwnS.len {n₀ : Nat} {w : World} {v : Value} {K : List ByteArray} (h : OwnS n₀ w v K) : ∃ ao c, v = .slice ao K.length c ∧ K.length ≤ c := by
  rcases id h.2 with ⟨rfl, h0⟩ | ⟨g, cap, cur, rfl, hg, hh, hn, hm, hc, ht⟩
  · exact ⟨none, 0, by rw [h0], by rw [h0]; exact Nat.le_refl _⟩
  · exact ⟨_, _, rfl, hn⟩
theorem OwnS.keep {n₀ : Nat} {w w' : World} {v : Value} {K : List ByteArray} (h : OwnS n₀ w v K) (k : ∀ j, v.ownBlock = some j → w'.heap[j]? = w.heap[j]?) : OwnS n₀ w' v K := by
  rcases id h.2 with ⟨rfl, h0⟩ | ⟨g, cap, cur, rfl, hg, hh, hn, hm, hc, ht⟩
  · exact ⟨h.1, .inl ⟨rfl, h0⟩⟩
  · exact ⟨h.1, .inr ⟨g, cap, cur, rfl, hg, by rw [k g rfl, hh], hn, hm, hc, ht⟩⟩
theorem OwnS.set {n₀ B i : Nat} {w : World} {v x : Value} {K : List ByteArray} (h : OwnS n₀ w v K) (hB : v.ownBlock ≠ some B) : OwnS n₀ (w.setCell ⟨B, i, none⟩ x) v K := h.keep fun j e => Below.heap_setCell w ⟨B, i, none⟩ x j (fun q => hB (by rw [e, q]))
theorem OwnS.off {n₀ B : Nat} {w : World} {v : Value} {K : List ByteArray} (h : OwnS n₀ w v K) (hB : B < n₀) : v.ownBlock ≠ some B := fun e => by
  have := (h.lt B e).1
  omega
theorem OwnS.cell {n₀ : Nat} {w : World} {ao : Option Addr} {n c : Nat} {K : List ByteArray} (h : OwnS n₀ w (.slice ao n c) K) {i : Nat} {x : ByteArray} (hx : K[i]? = some x) : ∃ g, ao = some ⟨g, 0, none⟩ ∧ w.cell? ⟨g, i, none⟩ = some (.string x) := by
  have hi : i < K.length := (List.getElem?_eq_some_iff.1 hx).1
  rcases id h.2 with ⟨hv, h0⟩ | ⟨g, cap, cur, hv, hg, hh, hn, hm, hc, ht⟩
  · omega
  · cases hv
    refine ⟨g, rfl, ?_⟩
    have h1 := World.ownsRow.cellAt h (j := i) (by omega)
    rw [h1]
    simp [hx]
/-- Rows of two kinds lie apart. -/
theorem ownSV {n m : Nat} {w : World} {v u : Value} {K : List ByteArray} {M : List JC} (h : OwnS n w v K) (k : OwnV m w u M) : ∀ j, v.ownBlock = some j → u.ownBlock ≠ some j := by
  intro j e q
  obtain ⟨c, fz, h1⟩ := Lib.ownsRow_kind h j e
  obtain ⟨c', fz', h2⟩ := Lib.ownsRow_kind k j q
  rw [h1] at h2
  cases h2

/-- A pair's cells: a key, and a number. -/
def pcell (x : ByteArray × ByteArray) : List Value := [.string x.1, .int .i64 3, .string x.2, .slice none 0 0, .slice none 0 0]
def pcells (P : List (ByteArray × ByteArray)) : List Value := P.flatMap pcell
theorem pcells_append (A B : List (ByteArray × ByteArray)) : pcells (A ++ B) = pcells A ++ pcells B := by simp [pcells]
theorem pcells_get : ∀ (P : List (ByteArray × ByteArray)) (i : Nat) (x : ByteArray × ByteArray) (r : Nat), P[i]? = some x → r < 5 → (pcells P)[i * 5 + r]? = (pcell x)[r]? := by
  intro P
  induction P with
  | nil => intro i x r h; simp at h
  | cons a l ih =>
    intro i x r h hr
    have e : pcells (a :: l) = pcell a ++ pcells l := rfl
    have hl : (pcell a).length = 5 := rfl
    cases i with
    | zero =>
      simp at h
      subst h
      rw [e, Nat.zero_mul, Nat.zero_add, List.getElem?_append_left (by omega)]
    | succ i =>
      rw [e, List.getElem?_append_right (by omega), hl, show (i + 1) * 5 + r - 5 = i * 5 + r by omega]
      exact ih i x r (by simpa using h) hr
def OwnP (n₀ : Nat) (W : World) (v : Value) (P : List (ByteArray × ByteArray)) : Prop := W.ownsRow n₀ 80 5 v P.length (pcells P)
theorem infoPair : (Tryd.prog.info? 80).map (fun i => (i.zero, i.size, i.bytes)) = some (some (.agg #[.string ⟨#[]⟩, .int .i64 0, .string ⟨#[]⟩, .slice none 0 0, .slice none 0 0]), 5, 88) := by kernel_rfl
theorem OwnP.lt {n₀ : Nat} {w : World} {v : Value} {P : List (ByteArray × ByteArray)} (h : OwnP n₀ w v P) : ∀ j, v.ownBlock = some j → n₀ ≤ j ∧ j < w.heap.size := World.ownsRow.lt h
theorem OwnP.len {n₀ : Nat} {w : World} {v : Value} {P : List (ByteArray × ByteArray)} (h : OwnP n₀ w v P) : ∃ ao c, v = .slice ao P.length c ∧ P.length ≤ c := by
  rcases id h.2 with ⟨rfl, h0⟩ | ⟨g, cap, cur, rfl, hg, hh, hn, hm, hc, ht⟩
  · exact ⟨none, 0, by rw [h0], by rw [h0]; exact Nat.le_refl _⟩
  · exact ⟨_, _, rfl, hn⟩
theorem OwnP.keep {n₀ : Nat} {w w' : World} {v : Value} {P : List (ByteArray × ByteArray)} (h : OwnP n₀ w v P) (k : ∀ j, v.ownBlock = some j → w'.heap[j]? = w.heap[j]?) : OwnP n₀ w' v P := by
  rcases id h.2 with ⟨rfl, h0⟩ | ⟨g, cap, cur, rfl, hg, hh, hn, hm, hc, ht⟩
  · exact ⟨h.1, .inl ⟨rfl, h0⟩⟩
  · exact ⟨h.1, .inr ⟨g, cap, cur, rfl, hg, by rw [k g rfl, hh], hn, hm, hc, ht⟩⟩
theorem OwnP.below {n₀ : Nat} {w w' : World} {v : Value} {P : List (ByteArray × ByteArray)} (h : OwnP n₀ w v P) (hb : Below w.heap.size w w') : OwnP n₀ w' v P := h.keep fun j e => hb.block j (h.lt j e).2
theorem OwnP.cell {n₀ : Nat} {w : World} {ao : Option Addr} {n c : Nat} {P : List (ByteArray × ByteArray)} (h : OwnP n₀ w (.slice ao n c) P) {i : Nat} {x : ByteArray × ByteArray} (hx : P[i]? = some x) : ∃ g, ao = some ⟨g, 0, none⟩ ∧ ∀ r, r < 5 → w.cell? ⟨g, i * 5 + r, none⟩ = (pcell x)[r]? := by
  have hi : i < P.length := (List.getElem?_eq_some_iff.1 hx).1
  rcases id h.2 with ⟨hv, h0⟩ | ⟨g, cap, cur, hv, hg, hh, hn, hm, hc, ht⟩
  · omega
  · cases hv
    refine ⟨g, rfl, fun r hr => ?_⟩
    have h1 := World.ownsRow.cellAt h (j := i * 5 + r) (by omega)
    rw [h1]
    exact pcells_get P i x r hx hr

/-- An object on its way. -/
structure MadeJ (w W : World) (kv lv : Value) (K : List ByteArray) (M : List JC) : Prop where
  box : BoxC W (w.heap.size + 1) 25 #[.int .i64 6, .string ⟨#[]⟩, kv, lv]
  ks : OwnS (w.heap.size + 2) W kv K
  vs : OwnV (w.heap.size + 2) W lv M
  low : Below w.heap.size w W
  res : BoxC W w.heap.size 25 #[.int .i64 0, .string ⟨#[]⟩, .slice none 0 0, .slice none 0 0]
theorem MadeJ.below {w W W' : World} {kv lv : Value} {K : List ByteArray} {M : List JC} (h : MadeJ w W kv lv K M) (hb : Below W.heap.size W W') : MadeJ w W' kv lv K M :=
  ⟨h.box.below hb, h.ks.keep (fun j e => hb.block j (h.ks.lt j e).2), h.vs.keep (fun j e => hb.block j (h.vs.lt j e).2), h.low.trans (hb.mono h.low.size), h.res.below hb⟩
theorem MadeJ.putK {w W W' : World} {kv lv kv' : Value} {K K' : List ByteArray} {M : List JC} (h : MadeJ w W kv lv K M) (hg : W.grownBy W' kv.ownBlock) (ho : OwnS (w.heap.size + 2) W' kv' K') : MadeJ w (W'.setCell ⟨w.heap.size + 1, 2, none⟩ kv') kv' lv K' M := by
  have n1 : some (w.heap.size + 1) ≠ kv.ownBlock := fun e => by have := (h.ks.lt _ e.symm).1; omega
  have n2 : some w.heap.size ≠ kv.ownBlock := fun e => by have := (h.ks.lt _ e.symm).1; omega
  refine ⟨(h.box.kept hg n1).set 2 kv', ho.set (ho.off (by omega)), ?_, ?_, (h.res.kept hg n2).other (by omega) 2 kv'⟩
  · have hv : OwnV (w.heap.size + 2) W' lv M := h.vs.keep (fun j e => hg.block j (h.vs.lt j e).2 (fun q => ownSV h.ks h.vs j q.symm e))
    exact hv.set (hv.off (by omega))
  · exact (h.low.grown hg h.low.size (fun j e => by have := (h.ks.lt j e).1; omega)).setCell (p := ⟨w.heap.size + 1, 2, none⟩) (Nat.le_succ _) kv'
theorem MadeJ.putV {w W W' : World} {kv lv lv' : Value} {K : List ByteArray} {M M' : List JC} (h : MadeJ w W kv lv K M) (hg : W.grownBy W' lv.ownBlock) (ho : OwnV (w.heap.size + 2) W' lv' M') : MadeJ w (W'.setCell ⟨w.heap.size + 1, 3, none⟩ lv') kv lv' K M' := by
  have n1 : some (w.heap.size + 1) ≠ lv.ownBlock := fun e => by have := (h.vs.lt _ e.symm).1; omega
  have n2 : some w.heap.size ≠ lv.ownBlock := fun e => by have := (h.vs.lt _ e.symm).1; omega
  refine ⟨(h.box.kept hg n1).set 3 lv', ?_, ho.set (ho.off (by omega)), ?_, (h.res.kept hg n2).other (by omega) 3 lv'⟩
  · have hk : OwnS (w.heap.size + 2) W' kv K := h.ks.keep (fun j e => hg.block j (h.ks.lt j e).2 (fun q => ownSV h.ks h.vs j e q.symm))
    exact hk.set (hk.off (by omega))
  · exact (h.low.grown hg h.low.size (fun j e => by have := (h.vs.lt j e).1; omega)).setCell (p := ⟨w.heap.size + 1, 3, none⟩) (Nat.le_succ _) lv'
/-- A key more. -/
theorem MadeJ.key {w W : World} {kv lv : Value} {K : List ByteArray} {M : List JC} (h : MadeJ w W kv lv K M) (s : ByteArray) (hlen : K.length ≤ 1000) :
    ∃ va vn vc w', (Builtin.append_ #[22, 22] 22 #[kv, .slice (some ⟨W.heap.size, 0, none⟩) 1 1]).run Tryd.prog (W.alloc (.cells #[.string s] 9)) = .ok (.slice va vn vc) w' ∧ MadeJ w (w'.setCell ⟨w.heap.size + 1, 2, none⟩ (.slice va vn vc)) (.slice va vn vc) lv (K ++ [s]) M ∧
      w'.cell? ⟨w.heap.size + 1, 2, none⟩ = some kv ∧ w'.frozen? ⟨w.heap.size + 1, 2, none⟩ = false ∧ w.heap.size + 1 < w'.heap.size ∧ (∀ B cs, BoxC W B 80 cs → BoxC w' B 80 cs) := by
  obtain ⟨i0, hi, hz0, hz1, hz2⟩ := info_parts infoStr
  have hb := bel W (.cells #[.string s] 9)
  have h1 := h.below hb
  have hx := BoxC.new W 9 #[.string s]
  have hbase := h1.box.lt
  obtain ⟨v', w', hr, h2, h3, _, h5⟩ := run_append_own_at (P := Tryd.prog) (W.alloc (.cells #[.string s] 9)) (w.heap.size + 2) 22 22 9 i0 (.string ⟨#[]⟩) 1 16 Tryd.underlying22 hi hz0 hz1 hz2 rfl (by decide) kv K.length (K.map Value.string) h1.ks ⟨W.heap.size, 0, none⟩ 1 1 [.string s] rfl (by
      intro j u hj
      have := hx.cell j
      rw [addr_plus, Nat.zero_add, this]
      simpa using hj) (by
      intro u hu
      simp only [List.mem_cons, List.not_mem_nil, or_false] at hu
      subst hu
      rfl) (by unfold maxLen; omega) (by omega) (by omega)
  have ho : OwnS (w.heap.size + 2) w' v' (K ++ [s]) := by
    unfold OwnS
    rw [List.length_append, List.map_append]
    exact h2
  obtain ⟨va, vc, rfl, _⟩ := ho.len
  have n1 : some (w.heap.size + 1) ≠ kv.ownBlock := fun e => by have := (h.ks.lt _ e.symm).1; omega
  have hbk := h1.box.kept h3 n1
  refine ⟨_, _, _, w', hr, h1.putK h3 ho, hbk.cell 2, hbk.frozen 2, hbk.lt, fun B cs hB => (hB.below hb).kept h3 (fun e => ?_)⟩
  obtain ⟨c, fz, hk⟩ := Lib.ownsRow_kind h1.ks B e.symm
  rw [show (W.alloc (.cells #[.string s] 9)).heap[B]? = _ from hB.below hb] at hk
  cases hk

end Go.Proofs.YtacgocfgcoejpaaDoor
