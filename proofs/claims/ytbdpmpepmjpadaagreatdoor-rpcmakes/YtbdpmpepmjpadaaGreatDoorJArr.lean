/- Json: rows of values; an array of numbers. -/
import Derived.Test.YtbdpmpepmjpadaaGreatDoorJRead3
import Derived.Deep.RegionHeld3
namespace Go.Proofs.YtbdpmpepmjpadaaGreatDoor
set_option linter.unusedVariables false
set_option linter.unusedSimpArgs false
set_option maxRecDepth 100000
open Go Go.RowKit Go.Shelf Go.Lib

theorem takeD {P : Program} {md : Region.Mode} {ops : Array Oper} {Q : Exit → Act → World → Prop} {S : World → Prop} {i : Nat} {oi : Oper} {v : Value} {fuel : Nat} {listed : Array Bool} {a : Act} {w : World} (d : Option Tmp) (hi : ops[i]? = some oi)
    (hs : Region.noSelect ops = true) (hf : Region.free md ops listed i = true) (hr : (Region.ready md ops listed).contains i = true)
    (hQ : ∀ c a w, Q (.panic c) (a.put oi.dst v) w → Q (.panic c) a w) (hy : YieldsIf P ops S oi v a) (hS : S w) (hd : oi.dst = d)
    (h : wpAnyH P md ops Q S fuel (listed.setIfInBounds i true) (a.put d v) w) : wpAnyH P md ops Q S (fuel + 1) listed a w :=
  wpAnyH_take hi hs hf hr hQ hy hS (by rw [hd]; exact h)

/-- A value in memory: kind, text, keys, list. -/
abbrev JC := Int × ByteArray × Value × Value
def vcell (x : JC) : List Value := [.int .i64 x.1, .string x.2.1, x.2.2.1, x.2.2.2]
def vagg (x : JC) : Value := .agg #[.int .i64 x.1, .string x.2.1, x.2.2.1, x.2.2.2]
def vcells (M : List JC) : List Value := M.flatMap vcell
theorem vcells_append (A B : List JC) : vcells (A ++ B) = vcells A ++ vcells B := by simp [vcells]
theorem vcells_length (M : List JC) : (vcells M).length = M.length * 4 := by
  induction M with
  | nil => rfl
  | cons x l ih =>
    have : vcells (x :: l) = vcell x ++ vcells l := rfl
    rw [this, List.length_append, ih, List.length_cons]
    simp [vcell]
    omega
/-- A slice, as a value. -/
def IsSl (v : Value) : Prop := ∃ ao n c, v = .slice ao n c
def nC (s : ByteArray) : JC := (3, s, .slice none 0 0, .slice none 0 0)
/-- Values in a row of one's own. -/
def OwnV (n₀ : Nat) (W : World) (v : Value) (M : List JC) : Prop := W.ownsRow n₀ 27 4 v M.length (vcells M)
theorem infoJV : (Tryz.prog.info? 27).map (fun i => (i.zero, i.size, i.bytes)) = some (some (.agg #[.int .i64 0, .string ⟨#[]⟩, .slice none 0 0, .slice none 0 0]), 4, 72) := by kernel_rfl
theorem ownV_nil (n₀ : Nat) (W : World) : OwnV n₀ W (.slice none 0 0) [] := World.ownsRow_nil _ _ _ _
theorem OwnV.slice {n₀ : Nat} {w : World} {v : Value} {M : List JC} (h : OwnV n₀ w v M) : ∃ ao n c, v = .slice ao n c := by
  rcases id h.2 with ⟨rfl, h0⟩ | ⟨g, cap, cur, rfl, hg, hh, hn, hm, hc, ht⟩
  · exact ⟨none, 0, 0, rfl⟩
  · exact ⟨_, _, _, rfl⟩
/-- Its length, whatever it is. -/
theorem OwnV.len {n₀ : Nat} {w : World} {v : Value} {M : List JC} (h : OwnV n₀ w v M) : ∃ ao c, v = .slice ao M.length c ∧ M.length ≤ c := by
  rcases id h.2 with ⟨rfl, h0⟩ | ⟨g, cap, cur, rfl, hg, hh, hn, hm, hc, ht⟩
  · exact ⟨none, 0, by rw [h0], by rw [h0]; exact Nat.le_refl _⟩
  · exact ⟨_, _, rfl, hn⟩
theorem OwnV.keep {n₀ : Nat} {w w' : World} {v : Value} {M : List JC} (h : OwnV n₀ w v M) (k : ∀ j, v.ownBlock = some j → w'.heap[j]? = w.heap[j]?) : OwnV n₀ w' v M := by
  rcases id h.2 with ⟨rfl, h0⟩ | ⟨g, cap, cur, rfl, hg, hh, hn, hm, hc, ht⟩
  · exact ⟨h.1, .inl ⟨rfl, h0⟩⟩
  · exact ⟨h.1, .inr ⟨g, cap, cur, rfl, hg, by rw [k g rfl, hh], hn, hm, hc, ht⟩⟩
theorem OwnV.lt {n₀ : Nat} {w : World} {v : Value} {M : List JC} (h : OwnV n₀ w v M) : ∀ j, v.ownBlock = some j → n₀ ≤ j ∧ j < w.heap.size := World.ownsRow.lt h
theorem OwnV.mono {n m : Nat} {w : World} {v : Value} {M : List JC} (h : OwnV m w v M) (k : n ≤ m) : OwnV n w v M := by
  rcases id h.2 with ⟨rfl, h0⟩ | ⟨g, cap, cur, rfl, hg, hh, hn, hm, hc, ht⟩
  · exact ⟨h.1, .inl ⟨rfl, h0⟩⟩
  · exact ⟨h.1, .inr ⟨g, cap, cur, rfl, Nat.le_trans k hg, hh, hn, hm, hc, ht⟩⟩
theorem OwnV.off {n₀ B : Nat} {w : World} {v : Value} {M : List JC} (h : OwnV n₀ w v M) (hB : B < n₀) : v.ownBlock ≠ some B := fun e => by
  have := (h.lt B e).1
  omega
theorem OwnV.set {n₀ B i : Nat} {w : World} {v x : Value} {M : List JC} (h : OwnV n₀ w v M) (hB : v.ownBlock ≠ some B) : OwnV n₀ (w.setCell ⟨B, i, none⟩ x) v M := h.keep fun j e => Below.heap_setCell w ⟨B, i, none⟩ x j (fun q => hB (by rw [e, q]))
/-- The block of a row of values is no other kind of block. -/
theorem OwnV.ne {n₀ B : Nat} {w : World} {v : Value} {M : List JC} {t : TypeId} {cs : Array Value} (h : OwnV n₀ w v M) (hb : BoxC w B t cs) (ht : t ≠ 27) : v.ownBlock ≠ some B := by
  intro e
  obtain ⟨c, fz, hk⟩ := Lib.ownsRow_kind h B e
  rw [show w.heap[B]? = _ from hb] at hk
  cases hk
  exact ht rfl
theorem OwnV.cell {n₀ : Nat} {w : World} {ao : Option Addr} {n c : Nat} {M : List JC} (h : OwnV n₀ w (.slice ao n c) M) {i : Nat} {x : JC} (hx : M[i]? = some x) : ∃ g, ao = some ⟨g, 0, none⟩ ∧ ∀ r, r < 4 → w.cell? ⟨g, i * 4 + r, none⟩ = (vcell x)[r]? := by
  have hi : i < M.length := (List.getElem?_eq_some_iff.1 hx).1
  rcases id h.2 with ⟨hv, h0⟩ | ⟨g, cap, cur, hv, hg, hh, hn, hm, hc, ht⟩
  · omega
  · cases hv
    refine ⟨g, rfl, fun r hr => ?_⟩
    have h1 := World.ownsRow.cellAt h (j := i * 4 + r) (by omega)
    rw [h1]
    have key : ∀ (M : List JC) (i : Nat), M[i]? = some x → (vcells M)[i * 4 + r]? = (vcell x)[r]? := by
      intro M
      induction M with
      | nil => intro i h; simp at h
      | cons a l ih =>
        intro i h
        have e : vcells (a :: l) = vcell a ++ vcells l := rfl
        have hl : (vcell a).length = 4 := rfl
        cases i with
        | zero =>
          simp at h
          subst h
          rw [e, Nat.zero_mul, Nat.zero_add, List.getElem?_append_left (by omega)]
        | succ i =>
          rw [e, List.getElem?_append_right (by omega), hl, show (i + 1) * 4 + r - 4 = i * 4 + r by omega]
          exact ih i (by simpa using h)
    exact key M i hx

/-- Appending values to one's own, in a region that draws. -/
theorem wp_appV (w : World) {o : Oper} {a : Act} {K : Act → World → Prop} {Q : Exit → Act → World → Prop} (s x : Operand)
    (ho : o.op = .call { callee := .builtin .append, args := #[s, x], argTypes := #[25, 25] })
    (n₀ : Nat) (v : Value) (M : List JC) (hs : a.eval s = v) (hown : OwnV n₀ w v M) (b c : Nat) (y : JC) (hx : a.eval x = .slice (some ⟨b, 0, none⟩) 1 c) (hl : BoxC w b 27 (vcell y).toArray) (h1 : y.2.2.1.oneCell' = true ∧ y.2.2.2.oneCell' = true) (hsum : M.length ≤ 1000000000) (hbase : n₀ ≤ w.heap.size)
    (h : ∀ v' w', OwnV n₀ w' v' (M ++ [y]) → w.grownBy w' v.ownBlock → (v'.ownBlock = v.ownBlock ∨ v'.ownBlock = some w.heap.size) → K (a.put o.dst v') w') : o.wp Tryz.prog a w K Q := by
  obtain ⟨i0, hi, hz0, hz1, hz2⟩ := info_parts infoJV
  obtain ⟨v', w', hr, h2, h3', _, h5⟩ := run_append_own_at (P := Tryz.prog) w n₀ 25 o.type 27 i0 _ 4 72 Tryz.underlying25 hi hz0 hz1 hz2 rfl (by decide) v M.length (vcells M) hown ⟨b, 0, none⟩ 1 c (vcell y) rfl (by
      intro j u hj
      have := hl.cell j
      rw [addr_plus, Nat.zero_add, this]
      simpa using hj) (by
      intro u hu
      simp only [vcell, List.mem_cons, List.not_mem_nil, or_false] at hu
      rcases hu with rfl | rfl | rfl | rfl
      · rfl
      · rfl
      · exact h1.1
      · exact h1.2) (by unfold maxLen; omega) (by omega) hbase
  have h2' : OwnV n₀ w' v' (M ++ [y]) := by
    unfold OwnV
    rw [List.length_append, vcells_append]
    exact h2
  unfold Oper.wp execOp
  simp only [ho, resolve, invoke, builtin, Sem.run_bind, Sem.run_pure, Result.andThen_ok, List.map_toArray, List.map_cons, List.map_nil, hs, hx, hr]
  exact h v' w' h2' h3' h5

end Go.Proofs.YtbdpmpepmjpadaaGreatDoor
