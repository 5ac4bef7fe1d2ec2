/- Lists that a call has gathered by append, with more behind their end; lists that may be written into. -/
import Derived.Test.YtjmbblglfabefaaDoorGcd
import Derived.Test.YtjmbblglfabefaaDoorBLimbs
import Derived.Test.YtjmbblglfabefaaDoorCounted
namespace Go.Proofs.YtjmbblglfabefaaDoor
set_option linter.unusedVariables false
set_option linter.unusedSimpArgs false
open Go Go.RowKit Go.Shelf Go.Lib

theorem run_append_empty (w : World) (n₀ : Nat) (ty : TypeId) (v : Value) (gs : List Nat) (c : Nat) (hown : OwnU n₀ w v gs) : (Builtin.append_ #[22, 22] ty #[v, .slice none 0 c]).run Tryd.prog w = .ok v w := by
  obtain ⟨i0, hi, hz0, hz1, hz2⟩ := info_parts infoU32
  rcases hown.2 with ⟨rfl, h0⟩ | ⟨g, cap, cur, rfl, _, _, hnc, _⟩
  · simp [Builtin.append_, run_underlying Tryd.underlying22, sizeOf, typeInfo, hi, Builtin.lenOf, Builtin.firstCells]
  · simp [Builtin.append_, run_underlying Tryd.underlying22, sizeOf, typeInfo, hi, Builtin.lenOf, Builtin.firstCells, hnc, storeCells]

theorem u32s_length (gs : List Nat) : (u32s gs).length = gs.length := by simp [u32s]
theorem u32s_append (gs xs : List Nat) : u32s (gs ++ xs) = u32s gs ++ u32s xs := by simp [u32s]

/-- Appending a list of limbs, whatever it is, to one's own. -/
theorem wpList_appU (w : World) {ops : Array Oper} {rest : List Oper} {o : Oper} {a : Act} {Q : Exit → Act → World → Prop} (hg : o.guard = none) (s x : Operand)
    (ho : o.op = .call { callee := .builtin .append, args := #[s, x], argTypes := #[22, 22] })
    (n₀ : Nat) (v : Value) (gs : List Nat) (hs : a.eval s = v) (hown : OwnU n₀ w v gs) (xv : Value) (xs : List Nat) (hx : a.eval x = xv) (hl : Limbs w xv xs) (hsum : gs.length + xs.length ≤ 1048576) (hbase : n₀ ≤ w.heap.size)
    (h : ∀ v' w', OwnU n₀ w' v' (gs ++ xs) → w.grownBy w' v.ownBlock → wpList Tryd.prog ops Q rest (a.put o.dst v') w') : wpList Tryd.prog ops Q (o :: rest) a w := by
  obtain ⟨ao, cap, rfl, h1, h2, h3, h4⟩ := hl
  obtain ⟨i0, hi, hz0, hz1, hz2⟩ := info_parts infoU32
  cases ao with
  | none =>
    have hd0 : xs = [] := by
      cases xs with
      | nil => rfl
      | cons y r => obtain ⟨b, off, e, _⟩ := h4 0 (by simp); cases e
    subst hd0
    refine wpList_plain hg fun K hK => ?_
    have hrun := run_append_empty w n₀ o.type v gs cap hown
    unfold Oper.wp
    simp only [List.length_nil] at hx
    simp [execOp, ho, resolve, invoke, builtin, hs, hx, hrun, Result.andThen]
    exact hK _ _ (h v w (by simpa using hown) ⟨rfl, rfl, rfl, Nat.le_refl _, fun _ _ _ => rfl⟩)
  | some ad =>
    refine wpList_append_own w hg s x 22 ho n₀ 46 i0 (.int .u32 0) 1 4 Tryd.underlying22 hi hz0 hz1 hz2 rfl (by decide) v gs.length (u32s gs) hs hown ad xs.length cap (u32s xs) hx (by simp [u32s]) ?_ ?_ (by unfold maxLen; omega) (by omega) hbase ?_
    · intro j u hj
      have hj2 : j < xs.length := by
        have := (List.getElem?_eq_some_iff.1 hj).1
        rw [u32s_length] at this
        exact this
      obtain ⟨b, off, e, hc⟩ := h4 j hj2
      cases e
      rw [addr_add, hc, nth_eq hj2]
      simp [u32s, hj2] at hj
      rw [hj]
    · intro u hu
      obtain ⟨z, _, rfl⟩ := List.mem_map.1 hu
      rfl
    · intro v' w' hown' hgrow _
      refine h v' w' ?_ hgrow
      unfold OwnU
      rw [List.length_append, u32s_append]
      exact hown'

theorem lit_one (w : World) (t : Nat) (ht : t < 4294967296) : Limbs (w.alloc (.cells #[.int .u32 (t : Int)] 46)) (.slice (some ⟨w.heap.size, 0, none⟩) 1 1) [t] := by
  have := lit_limbs w [t] (fun x hx => by rw [List.mem_singleton.1 hx, R_eq]; exact ht) (by simp)
  simpa using this

theorem OwnU.empty (w : World) : OwnU w.heap.size (w.alloc (.cells #[] 46)) (.slice (some ⟨w.heap.size, 0, none⟩) 0 0) [] :=
  World.ownsRow_lit w #[] 0 (Nat.le_refl _) (Nat.zero_le _) rfl

theorem OwnU.keep {n₀ : Nat} {W W' : World} {v : Value} {gs : List Nat} (h : OwnU n₀ W v gs) (hb : Below W.heap.size W W') : OwnU n₀ W' v gs := ownsRow_keep h hb

/-- A list with one more behind its end: its front, the one more, its room. -/
theorem OwnU.front {n₀ : Nat} {W : World} {v : Value} {xs : List Nat} {t : Nat} (h : OwnU n₀ W v (xs ++ [t])) (hs : Small R xs) (hl : xs.length ≤ 1048576) :
    ∃ g cap, v = .slice (some ⟨g, 0, none⟩) (xs.length + 1) cap ∧ n₀ ≤ g ∧ g < W.heap.size ∧ xs.length + 1 ≤ cap ∧ cap ≤ 9223372036854775807 := by
  rcases h.2 with ⟨_, h0⟩ | ⟨g, cap, cur, rfl, hg, hh, hn, hm, hc, ht⟩
  · simp at h0
  · refine ⟨g, cap, by simp, hg, (Array.getElem?_eq_some_iff.1 hh).1, by simpa using hn, by simpa [maxLen] using hm⟩

theorem OwnU.cell {n₀ : Nat} {W : World} {g cap n : Nat} {gs : List Nat} (h : OwnU n₀ W (.slice (some ⟨g, 0, none⟩) n cap) gs) {j : Nat} (hj : j < gs.length) : W.cell? ⟨g, j, none⟩ = some (.int .u32 ((nth gs j : Nat) : Int)) := by
  have hn : n = gs.length := h.len
  subst hn
  have := World.ownsRow.cellAt (show W.ownsRow n₀ 46 1 (.slice (some ⟨g, 0, none⟩) gs.length cap) gs.length (u32s gs) from h) j (by omega)
  rw [this, nth_eq hj]
  simp [u32s, hj]

theorem OwnU.limbsFront {n₀ : Nat} {W : World} {g cap n : Nat} {xs : List Nat} {t : Nat} (h : OwnU n₀ W (.slice (some ⟨g, 0, none⟩) n cap) (xs ++ [t])) (hs : Small R xs) (hl : xs.length ≤ 1048576) (hc : xs.length + 1 ≤ cap) :
    Limbs W (.slice (some ⟨g, 0, none⟩) xs.length cap) xs := by
  refine ⟨some ⟨g, 0, none⟩, cap, rfl, by omega, by omega, hs, fun j hj => ⟨g, 0, rfl, ?_⟩⟩
  rw [Nat.zero_add, h.cell (by simp; omega)]
  unfold nth
  rw [List.getElem?_append_left hj]

theorem OwnU.cellLast {n₀ : Nat} {W : World} {g cap n : Nat} {xs : List Nat} {t : Nat} (h : OwnU n₀ W (.slice (some ⟨g, 0, none⟩) n cap) (xs ++ [t])) : W.cell? ⟨g, xs.length, none⟩ = some (.int .u32 (t : Int)) := by
  rw [h.cell (by simp)]
  unfold nth
  simp

/-- A list that may be written into: nil, or the front of a block between n₀ and gl. -/
def Spot (n₀ gl : Nat) (W : World) (v : Value) : Prop :=
  v = .slice none 0 0 ∨ ∃ g full L cap, v = .slice (some ⟨g, 0, none⟩) L cap ∧ n₀ ≤ g ∧ g < gl ∧ L ≤ cap ∧ cap ≤ full.length ∧ full.length ≤ 70368744177664 ∧ Row W g full

theorem Spot.shape {n₀ gl : Nat} {W : World} {v : Value} (h : Spot n₀ gl W v) : ∃ a L c, v = .slice a L c ∧ L ≤ 70368744177664 := by
  rcases h with rfl | ⟨g, full, L, cap, rfl, _, _, h1, h2, h3, _⟩
  · exact ⟨_, _, _, rfl, by omega⟩
  · exact ⟨_, _, _, rfl, by omega⟩

theorem Spot.set {n₀ gl : Nat} {W : World} {v : Value} (h : Spot n₀ gl W v) (g j t : Nat) : Spot n₀ gl (W.setCell ⟨g, j, none⟩ (.int .u32 (t : Int))) v := by
  rcases h with rfl | ⟨g', full, L, cap, rfl, h1, h2, h3, h4, h5, h6⟩
  · exact .inl rfl
  · by_cases hg : g' = g
    · subst hg
      exact .inr ⟨g', full.set j t, L, cap, rfl, h1, h2, h3, by simpa using h4, by simpa using h5, h6.set j t⟩
    · exact .inr ⟨g', full, L, cap, rfl, h1, h2, h3, h4, h5, h6.other (a := ⟨g, j, none⟩) hg _⟩

theorem Made.spot {n₀ : Nat} {W : World} {v : Value} {zs : List Nat} (h : Made n₀ W v zs) : Spot n₀ W.heap.size W v := by
  obtain ⟨hs, ⟨rfl, rfl⟩ | ⟨g, full, cap, rfl, h1, h2, h3, h4, h5, h6, h7⟩⟩ := h
  · exact .inl rfl
  · exact .inr ⟨g, full, _, cap, rfl, h1, h6.lt, h2, h3, h4, h6⟩

theorem Spot.alloc {n₀ gl : Nat} {W : World} {v : Value} (h : Spot n₀ gl W v) (o : Obj) : Spot n₀ gl (W.alloc o) v := by
  rcases h with rfl | ⟨g', full, L, cap, rfl, h1, h2, h3, h4, h5, h6⟩
  · exact .inl rfl
  · exact .inr ⟨g', full, L, cap, rfl, h1, h2, h3, h4, h5, h6.alloc o⟩

/-- A list of the call's own, whatever number it is. -/
def Fresh (n₀ : Nat) (W : World) (v : Value) : Prop := ∃ zs, Made n₀ W v zs

theorem Fresh.below {n₀ : Nat} {W W' : World} {v : Value} (h : Fresh n₀ W v) (hb : Below W.heap.size W W') : Fresh n₀ W' v := by
  obtain ⟨zs, hm⟩ := h
  exact ⟨zs, hm.below hb⟩

theorem Fresh.mono {n₀ n₁ : Nat} {W : World} {v : Value} (h : Fresh n₀ W v) (hn : n₁ ≤ n₀) : Fresh n₁ W v := by
  obtain ⟨zs, hm⟩ := h
  exact ⟨zs, hm.mono hn⟩

theorem Fresh.spot {n₀ : Nat} {W : World} {v : Value} (h : Fresh n₀ W v) : Spot n₀ W.heap.size W v := by
  obtain ⟨zs, hm⟩ := h
  exact hm.spot

theorem Answer.fresh {w W : World} {v : Value} {n : Nat} (h : Answer w W v n) : Fresh w.heap.size W v := by
  obtain ⟨zs, hm, _⟩ := h
  exact ⟨zs, hm⟩

theorem add_fresh {w : World} {sv tv : Value} {xs ys : List Nat} (hx : Limbs w sv xs) (hy : Limbs w tv ys) (bx : xs.length ≤ 1048576) (byy : ys.length ≤ 1048576) :
    Calls Tryd.prog 23 #[sv, tv] w fun e w' => ∃ rv, e = .returned rv ∧ Fresh w.heap.size w' rv ∧ Below w.heap.size w w' := by
  refine (add_calls w sv tv xs ys hx hy bx byy).mono ?_
  rintro e w' ⟨rv, rfl, hA, hb⟩
  exact ⟨rv, rfl, hA.fresh, hb⟩

theorem mul_fresh {w : World} {sv tv : Value} {xs ys : List Nat} (hx : Limbs w sv xs) (hy : Limbs w tv ys) (bx : xs.length ≤ 1048576) (byy : ys.length ≤ 1048576) :
    Calls Tryd.prog 24 #[sv, tv] w fun e w' => ∃ rv, e = .returned rv ∧ Fresh w.heap.size w' rv ∧ Below w.heap.size w w' := by
  refine (mul_calls w sv tv xs ys hx hy bx byy).mono ?_
  rintro e w' ⟨rv, rfl, hA, hb⟩
  exact ⟨rv, rfl, hA.fresh, hb⟩

theorem norm_fresh {w : World} {sv : Value} {xs : List Nat} (hx : Limbs w sv xs) (bx : xs.length ≤ 1048576) :
    Calls Tryd.prog 25 #[sv] w fun e w' => ∃ rv, e = .returned rv ∧ Fresh w.heap.size w' rv ∧ Below w.heap.size w w' := by
  refine (norm_calls w sv xs hx bx).mono ?_
  rintro e w' ⟨rv, rfl, hA, hb⟩
  exact ⟨rv, rfl, hA.fresh, hb⟩

theorem gcd_fresh {w : World} {sv tv : Value} {xs ys : List Nat} (hx : Limbs w sv xs) (hy : Limbs w tv ys) (bx : xs.length ≤ 1048576) (byy : ys.length ≤ 1048576) :
    Calls Tryd.prog 9 #[sv, tv] w fun e w' => ∃ rv, e = .returned rv ∧ Fresh w.heap.size w' rv ∧ Below w.heap.size w w' := by
  refine (gcd_calls ⟨xs, hx, bx, rfl⟩ ⟨ys, hy, byy, rfl⟩).mono ?_
  rintro e w' ⟨rv, rfl, hA, hb⟩
  exact ⟨rv, rfl, hA.fresh, hb⟩

theorem divMod_fresh {w : World} {sv tv : Value} {xs ys : List Nat} (hx : Limbs w sv xs) (hy : Limbs w tv ys) (bx : xs.length ≤ 1048576) (byy : ys.length ≤ 1048576) :
    Calls Tryd.prog 26 #[sv, tv] w fun e w' => ∃ q r c, e = .returned (.tuple #[q, r, .int .i64 c]) ∧ Fresh w.heap.size w' q ∧ Fresh w.heap.size w' r ∧ Below w.heap.size w w' := by
  by_cases h : val R ys = 0
  · refine (divMod_zero hx hy bx byy h).mono ?_
    rintro e w' ⟨rfl, hb⟩
    exact ⟨_, _, _, rfl, ⟨[], Made.nil _ _⟩, ⟨[], Made.nil _ _⟩, hb⟩
  · refine (divMod_ans ⟨xs, hx, bx, rfl⟩ ⟨ys, hy, byy, rfl⟩ h).mono ?_
    rintro e w' ⟨q, r, rfl, hq, hr, hb⟩
    exact ⟨q, r, _, rfl, hq.fresh, hr.fresh, hb⟩

theorem words_eq {w : World} {sv tv : Value} {xs : List Nat} (hx : Limbs w sv xs) (hy : Limbs w tv xs) :
    Calls Tryd.prog 8 #[sv, tv] w fun e w' => e = .returned (.bool true) ∧ Below w.heap.size w w' := by
  refine (words_calls w sv tv xs xs hx hy).mono ?_
  rintro e w' ⟨rfl, h⟩
  exact ⟨by simp, h⟩

end Go.Proofs.YtjmbblglfabefaaDoor
