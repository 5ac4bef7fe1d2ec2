/- Json: memory: blocks, frames, parts of bytes, rows of bytes that grow. -/
import Derived.Test.YtbdpmpepmjpadaaGreatDoorTCat
import Derived.Test.YtbdpmpepmjpadaaGreatDoorFStr
import Derived.Laws.ResultCell
import Derived.Laws.Strings3
import Derived.Maps.AppendAt
import Derived.Deep.WholeRow
import Derived.Deep.LoopGhost
import Derived.Deep.RegionWith
namespace Go.Proofs.YtbdpmpepmjpadaaGreatDoor
set_option linter.unusedVariables false
set_option linter.unusedSimpArgs false
set_option maxRecDepth 100000
open Go Go.RowKit Go.Shelf Go.Lib

/-- A block that holds these cells. -/
def BoxC (W : World) (B : Nat) (t : TypeId) (cs : Array Value) : Prop := W.heap[B]? = some (.cells cs t (0, 0))
theorem BoxC.new (W : World) (t : TypeId) (cs : Array Value) : BoxC (W.alloc (.cells cs t)) W.heap.size t cs := World.alloc_heap_new W _
theorem BoxC.lt {W : World} {B : Nat} {t : TypeId} {cs : Array Value} (h : BoxC W B t cs) : B < W.heap.size := (Array.getElem?_eq_some_iff.1 h).1
theorem BoxC.kept {W W' : World} {row : Option Nat} {B : Nat} {t : TypeId} {cs : Array Value} (h : BoxC W B t cs) (hg : W.grownBy W' row) (hne : some B ≠ row) : BoxC W' B t cs := (hg.block B h.lt hne).trans h
theorem BoxC.alloc {W : World} {B : Nat} {t : TypeId} {cs : Array Value} (h : BoxC W B t cs) (o : Obj) : BoxC (W.alloc o) B t cs := h.kept (World.grownBy_alloc W o none) (by simp)
theorem BoxC.below {W W' : World} {B : Nat} {t : TypeId} {cs : Array Value} (h : BoxC W B t cs) (hb : Below W.heap.size W W') : BoxC W' B t cs := (hb.block B h.lt).trans h
theorem BoxC.cell {W : World} {B : Nat} {t : TypeId} {cs : Array Value} (h : BoxC W B t cs) (i : Nat) : W.cell? ⟨B, i, none⟩ = cs[i]? := by simp [World.cell?, show W.heap[B]? = _ from h]
theorem BoxC.frozen {W : World} {B : Nat} {t : TypeId} {cs : Array Value} (h : BoxC W B t cs) (i : Nat) : W.frozen? ⟨B, i, none⟩ = false := by simp [World.frozen?, show W.heap[B]? = _ from h]
theorem BoxC.set {W : World} {B : Nat} {t : TypeId} {cs : Array Value} (h : BoxC W B t cs) (i : Nat) (x : Value) : BoxC (W.setCell ⟨B, i, none⟩ x) B t (cs.set! i x) := heap_setCell_same W B i _ _ x h
theorem BoxC.other {W : World} {B C : Nat} {t : TypeId} {cs : Array Value} (h : BoxC W B t cs) (hne : B ≠ C) (i : Nat) (x : Value) : BoxC (W.setCell ⟨C, i, none⟩ x) B t cs := (heap_setCell_other W ⟨C, i, none⟩ B x hne).trans h

/-- Nothing is other than it was but block R, and the block of a row. -/
def Fr (R : Nat) (row : Option Nat) (w w' : World) : Prop := w'.os = w.os ∧ w'.tape = w.tape ∧ w'.output = w.output ∧ w.heap.size ≤ w'.heap.size ∧ ∀ k, k < w.heap.size → k ≠ R → row ≠ some k → w'.heap[k]? = w.heap[k]?
theorem Fr.refl (R : Nat) (row : Option Nat) (w : World) : Fr R row w w := ⟨rfl, rfl, rfl, Nat.le_refl _, fun _ _ _ _ => rfl⟩
theorem Fr.of {R : Nat} {row : Option Nat} {w w' : World} (h : Below w.heap.size w w') : Fr R row w w' := ⟨h.os, h.tape, h.output, h.size, fun k hk _ _ => h.block k hk⟩
theorem Fr.set {R : Nat} {row : Option Nat} {w w' : World} (h : Fr R row w w') (i : Nat) (x : Value) : Fr R row w (w'.setCell ⟨R, i, none⟩ x) := by
  refine ⟨h.1, h.2.1, h.2.2.1, ?_, fun k hk hne hr => (Below.heap_setCell w' ⟨R, i, none⟩ x k hne).trans (h.2.2.2.2 k hk hne hr)⟩
  have := (Below.refl 0 w').setCell (p := ⟨R, i, none⟩) (Nat.zero_le _) x
  exact Nat.le_trans h.2.2.2.1 this.size
/-- A store into a block that is new. -/
theorem Fr.setNew {R : Nat} {row : Option Nat} {w w' : World} (h : Fr R row w w') {B : Nat} (hB : w.heap.size ≤ B) (i : Nat) (x : Value) : Fr R row w (w'.setCell ⟨B, i, none⟩ x) := by
  refine ⟨h.1, h.2.1, h.2.2.1, ?_, fun k hk hne hr => (Below.heap_setCell w' ⟨B, i, none⟩ x k (by show k ≠ B; omega)).trans (h.2.2.2.2 k hk hne hr)⟩
  have := (Below.refl 0 w').setCell (p := ⟨B, i, none⟩) (Nat.zero_le _) x
  exact Nat.le_trans h.2.2.2.1 this.size
/-- The second row is the first, or new, or none. -/
def RowTo (w : World) (row row' : Option Nat) : Prop := row' = none ∨ row' = row ∨ ∃ k, row' = some k ∧ w.heap.size ≤ k
theorem RowTo.trans {w w' : World} {a b c : Option Nat} (h : RowTo w a b) (k : RowTo w' b c) (hs : w.heap.size ≤ w'.heap.size) : RowTo w a c := by
  rcases k with k | k | ⟨i, k, hi⟩
  · exact .inl k
  · rw [k]; exact h
  · exact .inr (.inr ⟨i, k, by omega⟩)
theorem Fr.trans {R : Nat} {row row' : Option Nat} {a b c : World} (h : Fr R row a b) (k : Fr R row' b c) (hr : RowTo a row row') : Fr R row a c := by
  refine ⟨k.1.trans h.1, k.2.1.trans h.2.1, k.2.2.1.trans h.2.2.1, Nat.le_trans h.2.2.2.1 k.2.2.2.1, fun i hi hne hrow => (k.2.2.2.2 i (Nat.lt_of_lt_of_le hi h.2.2.2.1) hne ?_).trans (h.2.2.2.2 i hi hne hrow)⟩
  rcases hr with e | e | ⟨j, e, hj⟩
  · rw [e]; simp
  · rw [e]; exact hrow
  · rw [e]; intro q; cases q; omega
theorem Fr.after {R : Nat} {row : Option Nat} {a b c : World} (h : Below a.heap.size a b) (k : Fr R row b c) : Fr R row a c :=
  ⟨k.1.trans h.os, k.2.1.trans h.tape, k.2.2.1.trans h.output, Nat.le_trans h.size k.2.2.2.1, fun i hi hne hrow => (k.2.2.2.2 i (Nat.lt_of_lt_of_le hi h.size) hne hrow).trans (h.block i hi)⟩
theorem Fr.then {R : Nat} {row : Option Nat} {a b c : World} (h : Fr R row a b) (k : Below b.heap.size b c) : Fr R row a c := h.trans (row' := none) (Fr.of k) (.inl rfl)
theorem Fr.size {R : Nat} {row : Option Nat} {w w' : World} (h : Fr R row w w') : w.heap.size ≤ w'.heap.size := h.2.2.2.1
theorem Fr.block {R : Nat} {row : Option Nat} {w w' : World} (h : Fr R row w w') {k : Nat} (hk : k < w.heap.size) (hne : k ≠ R) (hr : row ≠ some k) : w'.heap[k]? = w.heap[k]? := h.2.2.2.2 k hk hne hr
theorem Fr.cell {R : Nat} {row : Option Nat} {w w' : World} (h : Fr R row w w') {p : Addr} (hp : p.block < w.heap.size) (hne : p.block ≠ R) (hr : row ≠ some p.block) : w'.cell? p = w.cell? p := World.cell?_of_block (w := w) (h.2.2.2.2 p.block hp hne hr)
theorem Fr.below {R n : Nat} {row : Option Nat} {w w' : World} (h : Fr R row w w') (hR : n ≤ R) (hr : ∀ k, row = some k → n ≤ k) (hn : n ≤ w.heap.size) : Below n w w' :=
  ⟨h.1, h.2.1, h.2.2.1, h.2.2.2.1, fun k hk => h.2.2.2.2 k (by omega) (by omega) (fun e => by have := hr k e; omega)⟩
theorem Fr.grown {R : Nat} {row : Option Nat} {w w' : World} (hg : w.grownBy w' row) : Fr R row w w' := by
  have b := (Below.refl 0 w).grown hg (Nat.zero_le _) (fun _ _ => Nat.zero_le _)
  exact ⟨b.os, b.tape, b.output, b.size, fun k hk _ hr => hg.block k hk (fun e => hr e.symm)⟩
theorem BoxC.fr {R : Nat} {row : Option Nat} {w w' : World} {B : Nat} {t : TypeId} {cs : Array Value} (h : BoxC w B t cs) (k : Fr R row w w') (hne : B ≠ R) (hr : row ≠ some B) : BoxC w' B t cs := (k.block h.lt hne hr).trans h

theorem addr_plus (b off j : Nat) : (⟨b, off, none⟩ : Addr).add j = ⟨b, off + j, none⟩ := by
  unfold Addr.add
  split
  · rename_i h0; simp [h0]
  · rfl
theorem Byts.nonone {W : World} {cap : Nat} {T : List Nat} (h : Byts W (.slice none T.length cap) T) : T = [] := by
  obtain ⟨ao, c, e, h1, h2⟩ := h
  cases e
  cases T with
  | nil => rfl
  | cons x l => obtain ⟨b, off, e, _⟩ := h2 0 (by simp); cases e
/-- The front of bytes. -/
theorem Byts.front {W : World} {ao : Option Addr} {cap k : Nat} {T : List Nat} (h : Byts W (.slice ao T.length cap) T) (hk : k ≤ T.length) : Byts W (.slice ao k cap) (T.take k) := by
  obtain ⟨ao', c, e, h1, h2⟩ := h
  cases e
  have hl : (T.take k).length = k := by simp; omega
  refine ⟨ao, cap, by rw [hl], fun x hx => h1 x (List.mem_of_mem_take hx), fun j hj => ?_⟩
  rw [hl] at hj
  obtain ⟨b, off, e, hc⟩ := h2 j (by omega)
  exact ⟨b, off, e, by rw [nth_take hj]; exact hc⟩
/-- What is behind the front. -/
theorem Byts.rest {W : World} {ao : Option Addr} {cap f : Nat} {T : List Nat} (h : Byts W (.slice ao T.length cap) T) (hf : f ≤ T.length) (hcap : T.length ≤ cap) : Byts W (.slice (if cap = f then ao else ao.map (·.add f)) (T.length - f) (cap - f)) (T.drop f) := by
  obtain ⟨ao', c, e, h1, h2⟩ := h
  cases e
  have hl : (T.drop f).length = T.length - f := by simp
  refine ⟨_, _, by rw [hl], fun x hx => h1 x (List.mem_of_mem_drop hx), fun j hj => ?_⟩
  rw [hl] at hj
  obtain ⟨b, off, e, hc⟩ := h2 (f + j) (by omega)
  cases e
  rw [if_neg (by omega)]
  refine ⟨b, off + f, by simp [addr_plus], ?_⟩
  rw [show off + f + j = off + (f + j) by omega, hc, nth_drop]
theorem cut_front (W : World) (co : Option Addr) (n cc C : Nat) (h : C ≤ cc) : (Instr.slice 22 (.slice co n cc) none (some (.int .i64 (C : Int))) none).run Tryz.prog W = .ok (.slice co C cc) W := by
  have h1 := run_slice_h (P := Tryz.prog) (w := W) 22 co n cc (by kernel_rfl) .i64 (C : Int) (by omega) (by omega)
  rw [h1]
  go_simp
theorem cut_rest (W : World) (co : Option Addr) (n cc f : Nat) (h : f ≤ n) (h2 : n ≤ cc) : (Instr.slice 22 (.slice co n cc) (some (.int .i64 (f : Int))) none none).run Tryz.prog W = .ok (.slice (if cc = f then co else co.map (·.add f)) (n - f) (cc - f)) W := by
  have h1 := run_slice_l (P := Tryz.prog) (w := W) 22 co n cc (by kernel_rfl) .i64 (f : Int) (by omega) (by omega)
  rw [h1]
  go_simp
/-- Bytes that have room for themselves. -/
def Byt (W : World) (ao : Option Addr) (cap : Nat) (T : List Nat) : Prop := Byts W (.slice ao T.length cap) T ∧ T.length ≤ cap ∧ (ao = none → cap = 0)
theorem Byt.below {W W' : World} {ao : Option Addr} {cap : Nat} {T : List Nat} (h : Byt W ao cap T) (hb : Below W.heap.size W W') : Byt W' ao cap T := ⟨h.1.below hb, h.2⟩
theorem Byts.fr {R : Nat} {row : Option Nat} {w w' : World} {ao : Option Addr} {n cap : Nat} {T : List Nat} (h : Byts w (.slice ao n cap) T) (k : Fr R row w w') (hne : ∀ a, ao = some a → a.block ≠ R ∧ row ≠ some a.block) : Byts w' (.slice ao n cap) T := by
  obtain ⟨ao', c, e, h1, h2⟩ := h
  cases e
  refine ⟨ao, cap, rfl, h1, fun j hj => ?_⟩
  obtain ⟨b, off, e, hc⟩ := h2 j hj
  obtain ⟨q1, q2⟩ := hne _ e
  exact ⟨b, off, e, (k.cell (p := ⟨b, off + j, none⟩) (block_lt hc) q1 q2).trans hc⟩
theorem own_byts {n₀ : Nat} {W : World} {v : Value} {T : List Nat} (hT : ∀ x ∈ T, x < 256) (h : OwnB n₀ W v T) : ∃ ao cap, v = .slice ao T.length cap ∧ Byts W (.slice ao T.length cap) T ∧ T.length ≤ cap ∧ (ao = none → cap = 0) ∧ (v.ownBlock = none → ao = none) ∧ ∀ a, ao = some a → v.ownBlock = some a.block := by
  rcases id h.2 with ⟨rfl, h0⟩ | ⟨g, cap, cur, rfl, hg, hh, hn, hm, hc, ht⟩
  · obtain rfl : T = [] := List.length_eq_zero_iff.1 h0
    exact ⟨none, 0, rfl, ⟨none, 0, rfl, hT, fun j hj => by simp at hj⟩, Nat.le_refl _, fun _ => rfl, fun _ => rfl, fun a e => by cases e⟩
  · refine ⟨some ⟨g, 0, none⟩, cap, rfl, ⟨some ⟨g, 0, none⟩, cap, rfl, hT, fun j hj => ⟨g, 0, rfl, ?_⟩⟩, hn, fun e => (by cases e), fun e => (by simp [Value.ownBlock] at e), fun a e => (by cases e; rfl)⟩
    have := World.ownsRow.cellAt h j (by omega)
    rw [Nat.zero_add, this]
    simp [nth, hj, u8s]

theorem OwnB.fr {n₀ R : Nat} {row : Option Nat} {w w' : World} {v : Value} {T : List Nat} (h : OwnB n₀ w v T) (k : Fr R row w w') (h1 : v.ownBlock ≠ some R) (h2 : v.ownBlock = none ∨ v.ownBlock ≠ row) : OwnB n₀ w' v T := by
  rcases id h.2 with ⟨rfl, h0⟩ | ⟨g, cap, cur, rfl, hg, hh, hn, hm, hc, ht⟩
  · exact ⟨h.1, .inl ⟨rfl, h0⟩⟩
  · have e : (Value.slice (some ⟨g, 0, none⟩) T.length cap).ownBlock = some g := rfl
    rw [e] at h1 h2
    have hlt : g < w.heap.size := (Array.getElem?_eq_some_iff.1 hh).1
    refine ⟨h.1, .inr ⟨g, cap, cur, rfl, hg, ?_, hn, hm, hc, ht⟩⟩
    rw [k.block hlt (fun q => h1 (by rw [q])) (fun q => by
      rcases h2 with h2 | h2
      · cases h2
      · exact h2 q.symm), hh]
theorem OwnB.slice {n₀ : Nat} {w : World} {v : Value} {T : List Nat} (h : OwnB n₀ w v T) : ∃ ao n c, v = .slice ao n c := by
  rcases id h.2 with ⟨rfl, h0⟩ | ⟨g, cap, cur, rfl, hg, hh, hn, hm, hc, ht⟩
  · exact ⟨none, 0, 0, rfl⟩
  · exact ⟨_, _, _, rfl⟩
/-- A row of bytes is no reader. -/
theorem OwnB.off {n₀ R : Nat} {w : World} {v : Value} {T : List Nat} {cs : Array Value} (h : OwnB n₀ w v T) (hb : BoxC w R 101 cs) : v.ownBlock ≠ some R := by
  intro e
  obtain ⟨c, fz, hk⟩ := Lib.ownsRow_kind h R e
  rw [show w.heap[R]? = _ from hb] at hk
  cases hk
theorem OwnB.below {n₀ : Nat} {w w' : World} {v : Value} {T : List Nat} (h : OwnB n₀ w v T) (k : Below w.heap.size w w') : OwnB n₀ w' v T := by
  rcases id h.2 with ⟨rfl, h0⟩ | ⟨g, cap, cur, rfl, hg, hh, hn, hm, hc, ht⟩
  · exact ⟨h.1, .inl ⟨rfl, h0⟩⟩
  · have hlt : g < w.heap.size := (Array.getElem?_eq_some_iff.1 hh).1
    exact ⟨h.1, .inr ⟨g, cap, cur, rfl, hg, by rw [k.block g hlt, hh], hn, hm, hc, ht⟩⟩
/-- Appending bytes, whatever they are, to one's own: the row is that one still, or a new one. -/
theorem wpList_appA (w : World) {ops : Array Oper} {rest : List Oper} {o : Oper} {a : Act} {Q : Exit → Act → World → Prop} (hg : o.guard = none) (s x : Operand)
    (ho : o.op = .call { callee := .builtin .append, args := #[s, x], argTypes := #[22, 22] })
    (n₀ : Nat) (v : Value) (gs : List Nat) (hs : a.eval s = v) (hown : OwnB n₀ w v gs) (xv : Value) (xs : List Nat) (hx : a.eval x = xv) (hl : Byts w xv xs) (hsum : gs.length + xs.length ≤ 1000000000) (hbase : n₀ ≤ w.heap.size)
    (h : ∀ v' w', OwnB n₀ w' v' (gs ++ xs) → w.grownBy w' v.ownBlock → (v'.ownBlock = v.ownBlock ∨ v'.ownBlock = some w.heap.size) → wpList Tryz.prog ops Q rest (a.put o.dst v') w') : wpList Tryz.prog ops Q (o :: rest) a w := by
  obtain ⟨ao, cap, rfl, h3, h4⟩ := hl
  obtain ⟨i0, hi, hz0, hz1, hz2⟩ := info_parts infoByte
  by_cases hz : xs.length = 0 ∧ ao = none
  · obtain ⟨hz, rfl⟩ := hz
    obtain rfl : xs = [] := List.length_eq_zero_iff.1 hz
    refine wpList_plain hg fun K hK => ?_
    have hrun := run_append_none w n₀ o.type v gs cap hown
    unfold Oper.wp
    simp only [List.length_nil] at hx
    simp [execOp, ho, resolve, invoke, builtin, hs, hx, hrun, Result.andThen]
    exact hK _ _ (h v w (by simpa using hown) ⟨rfl, rfl, rfl, Nat.le_refl _, fun _ _ _ => rfl⟩ (.inl rfl))
  · obtain ⟨ad, had⟩ : ∃ ad, ao = some ad := by
      cases hA : ao with
      | some ad => exact ⟨ad, rfl⟩
      | none =>
        exfalso
        apply hz
        refine ⟨?_, hA⟩
        rcases Nat.eq_zero_or_pos xs.length with e | e
        · exact e
        · obtain ⟨b, off, e2, _⟩ := h4 0 e
          rw [hA] at e2
          cases e2
    subst had
    refine wpList_append_own_at w hg s x 22 ho n₀ 5 i0 (.int .u8 0) 1 1 Tryz.underlying22 hi hz0 hz1 hz2 rfl (by decide) v gs.length (u8s gs) hs hown ad xs.length cap (u8s xs) hx (by simp [u8s]) ?_ ?_ (by unfold maxLen; omega) (by omega) hbase ?_
    · intro j u hj
      have hj2 : j < xs.length := by
        have := (List.getElem?_eq_some_iff.1 hj).1
        rw [u8s_length] at this
        exact this
      obtain ⟨b, off, e, hc⟩ := h4 j hj2
      cases e
      rw [addr_add', hc]
      simp [u8s, hj2] at hj
      simp [nth, hj2, hj]
    · intro u hu
      obtain ⟨z, _, rfl⟩ := List.mem_map.1 hu
      rfl
    · intro v' w' hown' hgrow _ hrow
      refine h v' w' ?_ hgrow hrow
      unfold OwnB
      rw [List.length_append, u8s_append]
      exact hown'

/-- Appending bytes, whatever they are, to one's own, in a region that draws. -/
theorem wp_appA (w : World) {o : Oper} {a : Act} {K : Act → World → Prop} {Q : Exit → Act → World → Prop} (s x : Operand)
    (ho : o.op = .call { callee := .builtin .append, args := #[s, x], argTypes := #[22, 22] })
    (n₀ : Nat) (v : Value) (gs : List Nat) (hs : a.eval s = v) (hown : OwnB n₀ w v gs) (xv : Value) (xs : List Nat) (hx : a.eval x = xv) (hl : Byts w xv xs) (hsum : gs.length + xs.length ≤ 1000000000) (hbase : n₀ ≤ w.heap.size)
    (h : ∀ v' w', OwnB n₀ w' v' (gs ++ xs) → w.grownBy w' v.ownBlock → (v'.ownBlock = v.ownBlock ∨ v'.ownBlock = some w.heap.size) → K (a.put o.dst v') w') : o.wp Tryz.prog a w K Q := by
  have key : ∃ v' w', (Builtin.append_ #[22, 22] o.type #[v, xv]).run Tryz.prog w = .ok v' w' ∧ OwnB n₀ w' v' (gs ++ xs) ∧ w.grownBy w' v.ownBlock ∧ (v'.ownBlock = v.ownBlock ∨ v'.ownBlock = some w.heap.size) := by
    obtain ⟨ao, cap, rfl, h3, h4⟩ := hl
    obtain ⟨i0, hi, hz0, hz1, hz2⟩ := info_parts infoByte
    cases ao with
    | none =>
      have hz : xs = [] := by
        cases xs with
        | nil => rfl
        | cons y l => obtain ⟨b, off, e, _⟩ := h4 0 (by simp); cases e
      subst hz
      exact ⟨v, w, run_append_none w n₀ o.type v gs cap hown, by simpa using hown, ⟨rfl, rfl, rfl, Nat.le_refl _, fun _ _ _ => rfl⟩, .inl rfl⟩
    | some ad =>
      obtain ⟨v', w', hr, h2, h3', _, h5⟩ := run_append_own_at (P := Tryz.prog) w n₀ 22 o.type 5 i0 (.int .u8 0) 1 1 Tryz.underlying22 hi hz0 hz1 hz2 rfl (by decide) v gs.length (u8s gs) hown ad xs.length cap (u8s xs) (by simp [u8s]) (by
        intro j u hj
        have hj2 : j < xs.length := by
          have := (List.getElem?_eq_some_iff.1 hj).1
          rw [u8s_length] at this
          exact this
        obtain ⟨b, off, e, hc⟩ := h4 j hj2
        cases e
        rw [addr_add', hc]
        simp [u8s, hj2] at hj
        simp [nth, hj2, hj]) (by
        intro u hu
        obtain ⟨z, _, rfl⟩ := List.mem_map.1 hu
        rfl) (by unfold maxLen; omega) (by omega) hbase
      refine ⟨v', w', hr, ?_, h3', h5⟩
      unfold OwnB
      rw [List.length_append, u8s_append]
      exact h2
  obtain ⟨v', w', hr, h2, h3, h5⟩ := key
  unfold Oper.wp execOp
  simp only [ho, resolve, invoke, builtin, Sem.run_bind, Sem.run_pure, Result.andThen_ok, List.map_toArray, List.map_cons, List.map_nil, hs, hx, hr]
  exact h v' w' h2 h3 h5


theorem strOf_size (T : List Nat) : (strOf T).size = T.length := by simp [strOf, ByteArray.size]
theorem bytesRow_size (s : ByteArray) (cap : Nat) (h : s.size ≤ cap) : (bytesRow s cap).size = cap := by
  unfold bytesRow
  simp
  have : s.data.size = s.size := rfl
  omega
/-- The bytes of a string, in memory of their own, with room behind them. -/
theorem conv_str (w : World) (T : List Nat) (hT : ∀ x ∈ T, x < 256) : ∃ cap w', (convert 9 22 (.string (strOf T))).run Tryz.prog w = .ok (.slice (some ⟨w.heap.size, 0, none⟩) T.length cap) w' ∧ Byts w' (.slice (some ⟨w.heap.size, 0, none⟩) T.length cap) T ∧ T.length ≤ cap ∧ Below w.heap.size w w' ∧ w'.heap.size = w.heap.size + 1 ∧ ∀ j, j < cap → (w'.cell? ⟨w.heap.size, j, none⟩).isSome = true ∧ w'.frozen? ⟨w.heap.size, j, none⟩ = false := by
  have h := run_bytes_of_string (P := Tryz.prog) w 9 22 5 (strOf T) Tryz.underlying9 Tryz.underlying22 Tryz.underlying5
  rw [strOf_size] at h
  have hge := grownCap_ge w T.length 0 5
  generalize grownCap w T.length 0 5 = cap at h hge
  have hsz := bytesRow_size (strOf T) cap (by rw [strOf_size]; exact hge)
  have hh := World.alloc_heap_new w.drew (.cells (bytesRow (strOf T) cap) 5 ((bytesRow (strOf T) cap).size, (bytesRow (strOf T) cap).size + 1))
  refine ⟨cap, _, h, ⟨_, cap, rfl, hT, fun j hj => ⟨w.heap.size, 0, rfl, ?_⟩⟩, hge, (Below.refl _ w).drew.alloc (Nat.le_refl _) _, by simp, fun j hj => ⟨?_, ?_⟩⟩
  · have hj' : j < (strOf T).data.size := by simp [strOf]; exact hj
    have hb := bytesRow_at (strOf T) cap j hj'
    simp only [World.cell?, Nat.zero_add]
    rw [show w.heap.size = w.drew.heap.size from rfl, hh]
    simp only [hb]
    have hx : T[j] < 256 := hT _ (List.getElem_mem hj)
    simp [strOf, nth, hj]
    omega
  · simp only [World.cell?]
    rw [show w.heap.size = w.drew.heap.size from rfl, hh]
    have : j < (bytesRow (strOf T) cap).size := by omega
    simp [this]
  · simp only [World.frozen?]
    rw [show w.heap.size = w.drew.heap.size from rfl, hh]
    simp
    omega

end Go.Proofs.YtbdpmpepmjpadaaGreatDoor
