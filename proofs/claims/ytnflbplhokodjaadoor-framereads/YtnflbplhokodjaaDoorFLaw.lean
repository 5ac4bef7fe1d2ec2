/- Frame: what the walks of the laws share. -/
import Derived.Test.YtnflbplhokodjaaDoorFExam
import Derived.BigQuiet
import Derived.Deep.QuietTactic
namespace Go.Proofs.YtnflbplhokodjaaDoor
set_option linter.unusedVariables false
set_option linter.unusedSimpArgs false
set_option maxRecDepth 100000
open Go Go.RowKit Go.Shelf Go.Lib

theorem bdrewN {n : Nat} {w W : World} (h : Below n w W) (k : Nat) : Below n w (W.drewN k) := by
  induction k with
  | zero => exact h
  | succ k ih => exact ih.drew
theorem OwnM.fr {n₁ R : Nat} {w w' : World} {v : Value} {L : List (Nat × Value)} {cs : Array Value} (q : OwnM n₁ w v L) (hb : BoxC w R 48 cs) (k : Fr R none w w') : OwnM n₁ w' v L := q.keep fun j e => by
  obtain ⟨q1, q2, c, fz, q3⟩ := q.kind e
  exact k.block q2 (fun z => by subst z; rw [show w.heap[_]? = _ from hb] at q3; cases q3) (by simp)
theorem Bods.fr {n₀ R : Nat} {w w' : World} {L : List (Nat × Value)} {ms : List Msg} {cs : Array Value} (h : Bods n₀ w L ms) (hb : BoxC w R 48 cs) (k : Fr R none w w') : Bods n₀ w' L ms := h.keep fun x hx j e => by
  obtain ⟨_, c, fz, q3⟩ := h.kind hx e
  exact k.block (Array.getElem?_eq_some_iff.1 q3).1 (fun z => by subst z; rw [show w.heap[_]? = _ from hb] at q3; cases q3) (by simp)
theorem OwnM.below {n₁ : Nat} {w w' : World} {v : Value} {L : List (Nat × Value)} (q : OwnM n₁ w v L) (hb : Below w.heap.size w w') : OwnM n₁ w' v L := q.keep fun j e => hb.block j (q.kind e).2.1
theorem Bods.below {n₀ : Nat} {w w' : World} {L : List (Nat × Value)} {ms : List Msg} (h : Bods n₀ w L ms) (hb : Below w.heap.size w w') : Bods n₀ w' L ms := h.keep fun x hx j e => by
  obtain ⟨_, c, fz, q3⟩ := h.kind hx e
  exact hb.block j (Array.getElem?_eq_some_iff.1 q3).1
/-- A reader that is another one. -/
theorem Rdr.fr {n₀ R R2 : Nat} {w w' : World} {s s2 : St} {row : Option Nat} (h : Rdr n₀ w R s row) (h2 : Rdr n₀ w R2 s2 none) (hne : R ≠ R2) (k : Fr R2 none w w') : Rdr n₀ w' R s row := h.keep fun j e => by
  obtain ⟨cs, hb⟩ := h.box
  obtain ⟨cs2, hb2⟩ := h2.box
  rcases e with rfl | e
  · exact k.block hb.lt hne (by simp)
  · obtain ⟨c, fz, q3⟩ := h.kind e
    exact k.block (Array.getElem?_eq_some_iff.1 q3).1 (fun z => by subst z; rw [show w.heap[_]? = _ from hb2] at q3; cases q3) (by simp)
/-- One message, told once more. -/
theorem msg_at {n₀ n₁ : Nat} {w : World} {v : Value} {L : List (Nat × Value)} {ms : List Msg} (q : OwnM n₁ w v L) (h : Bods n₀ w L ms) {j : Nat} {m : Msg} (hj : ms[j]? = some m) : ∃ g c a n cc, v = .slice (some ⟨g, 0, none⟩) L.length c ∧ w.cell? ⟨g, j * 2, none⟩ = some (.int .i64 (m.1 : Int)) ∧ w.cell? ⟨g, j * 2 + 1, none⟩ = some (.slice a n cc) ∧ Byts w (.slice a n cc) m.2 := by
  have hl := h.len
  have hjl : j < L.length := by rw [hl]; exact (List.getElem?_eq_some_iff.1 hj).1
  obtain ⟨x, hx⟩ : ∃ x, L[j]? = some x := ⟨_, List.getElem?_eq_getElem hjl⟩
  obtain ⟨m', hm', e1, e2, e3⟩ := h.at hx
  rw [hj] at hm'
  cases hm'
  obtain ⟨g, c, hv, c0, c1⟩ := q.cells hx
  obtain ⟨a, cc, hb, hby, _⟩ := own_byts e3 e2
  exact ⟨g, c, a, m.2.length, cc, hv, by rw [c0, e1], by rw [c1, hb], hby⟩

theorem cut_one (W : World) (co : Option Addr) (n cc i : Nat) (h : i < n) (h2 : n ≤ cc) : (Instr.slice 25 (.slice co n cc) (some (.int .i64 (i : Int))) (some (.int .i64 ((i : Int) + 1))) none).run Tryd.prog W = .ok (.slice (if cc = i then co else co.map (·.add i)) 1 (cc - i)) W := by
  have h1 := run_slice_lh (P := Tryd.prog) (w := W) 25 co n cc (by kernel_rfl) .i64 .i64 (i : Int) ((i : Int) + 1) (by omega) (by omega) (by omega)
  rw [h1]
  go_simp
theorem Byts.one {W : World} {ao : Option Addr} {cap i : Nat} {T : List Nat} (h : Byts W (.slice ao T.length cap) T) (hi : i < T.length) (hcap : T.length ≤ cap) : ∃ b o, (if cap = i then ao else ao.map (·.add i)) = some ⟨b, o, none⟩ ∧ b < W.heap.size ∧ Byts W (.slice (some ⟨b, o, none⟩) 1 (cap - i)) [nth T i] := by
  have hs := h.small
  obtain ⟨ao', c, e, h1, h2⟩ := h
  cases e
  obtain ⟨b, off, rfl, hc⟩ := h2 i hi
  refine ⟨b, off + i, by rw [if_neg (by omega)]; simp [addr_plus], block_lt hc, some ⟨b, off + i, none⟩, cap - i, rfl, fun x hx => by simp at hx; rw [hx]; exact nth_lt hs i, fun j hj => ⟨b, off + i, rfl, ?_⟩⟩
  obtain rfl : j = 0 := by simpa using hj
  exact hc

end Go.Proofs.YtnflbplhokodjaaDoor
