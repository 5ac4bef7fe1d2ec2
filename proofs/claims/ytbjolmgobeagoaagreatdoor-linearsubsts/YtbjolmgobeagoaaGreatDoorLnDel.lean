/- Parts that are struck out of a row of one's own: slices.IndexFunc, slices.DeleteFunc, slices.Clone at parts. -/
import Derived.Test.YtbjolmgobeagoaaGreatDoorLnOne
import Derived.Test.YtbjolmgobeagoaaGreatDoorBigOps
import Derived.Lib.SliceRun
import Derived.Laws.CopyRow
import Derived.Lib.AppendZeros
import Derived.StillTailTactics
namespace Go.Proofs.YtbjolmgobeagoaaGreatDoor
set_option linter.unusedVariables false
set_option linter.unusedSimpArgs false
set_option maxRecDepth 100000
open Go Go.RowKit Go.Shelf Go.Lib

/-- All is as it was below a block, and so are all limbs. -/
def Fr32 (n : Nat) (W W' : World) : Prop := Below n W W' ∧ K32 W W'
theorem Fr32.refl (n : Nat) (W : World) : Fr32 n W W := ⟨Below.refl _ _, K32.refl _⟩
theorem Fr32.trans {n : Nat} {A B C : World} (h : Fr32 n A B) (k : Fr32 n B C) : Fr32 n A C := ⟨h.1.trans k.1, h.2.trans k.2⟩
theorem Fr32.of {n : Nat} {W W' : World} (h : Below W.heap.size W W') (hn : n ≤ W.heap.size) : Fr32 n W W' := ⟨h.mono hn, K32.of h⟩

theorem ptCells_one {m : Pt} (h : m.2.2.1.oneCell' = true) : ∀ u ∈ ptCells m, u.oneCell' = true := by
  intro u hu
  simp only [ptCells, List.mem_cons, List.mem_nil_iff, or_false] at hu
  rcases hu with rfl | rfl | rfl
  · rfl
  · rfl
  · exact h
theorem not32 {m : Pt} {i : Nat} {u : Value} (hs : ∃ a L c, m.2.2.1 = .slice a L c) (h : (ptCells m)[i]? = some u) (x : Int) : u ≠ .int .u32 x := by
  obtain ⟨a, L, c, e⟩ := hs
  have hm := List.mem_of_getElem? h
  simp only [ptCells, List.mem_cons, List.mem_nil_iff, or_false] at hm
  rintro rfl
  rw [e] at hm
  simp at hm
/-- The limbs of all parts are slices. -/
def Sl (M : List Pt) : Prop := ∀ m ∈ M, ∃ a L c, m.2.2.1 = .slice a L c
theorem GoodA.sl {W : World} {M : List Pt} (h : GoodA W M) : Sl M := fun m hm => by
  obtain ⟨_, neg, mv, n, e, ha, _⟩ := h m hm
  have e2 : m.2.2.1 = mv := by
    simp only [Value.agg.injEq, Array.mk.injEq, List.cons.injEq, and_true] at e
    exact e.2
  rw [e2]
  exact ha.shape
theorem GoodR.sl {W : World} {M : List Pt} (h : GoodR W M) : Sl M := fun m hm => by
  obtain ⟨_, mv, e, ha⟩ := h m hm
  have e2 : m.2.2.1 = mv := by
    simp only [Value.agg.injEq, Array.mk.injEq, List.cons.injEq, and_true] at e
    exact e.2
  rw [e2]
  obtain ⟨a, L, c, e3, _⟩ := ha.shape
  exact ⟨a, L, c, e3⟩
theorem Sl.one {M : List Pt} (h : Sl M) : ∀ m ∈ M, m.2.2.1.oneCell' = true := fun m hm => by
  obtain ⟨a, L, c, e⟩ := h m hm
  rw [e]
  rfl

theorem pcells_set : ∀ (M : List Pt) (i : Nat) (m : Pt), pcells (M.set i m) = (((pcells M).set (i * 3) (.int .i64 m.1)).set (i * 3 + 1) (.bool m.2.1)).set (i * 3 + 2) m.2.2.1 := by
  intro M
  induction M with
  | nil => intro i m; simp [pcells]
  | cons a l ih =>
    intro i m
    cases i with
    | zero => simp [pcells_cons, ptCells]
    | succ i =>
      rw [List.set_cons_succ, pcells_cons, ih, pcells_cons, show (i + 1) * 3 = i * 3 + 3 by omega]
      simp [ptCells]

/-- A part of one's own row is put anew. -/
theorem OwnP.put {n₀ : Nat} {W : World} {g cap : Nat} {M : List Pt} (h : OwnP n₀ W (.slice (some ⟨g, 0, none⟩) M.length cap) M) (hs : Sl M) {i : Nat} (hi : i < M.length) (m : Pt) {o0 o1 o2 : Nat} (e0 : o0 = i * 3) (e1 : o1 = i * 3 + 1) (e2 : o2 = i * 3 + 2) :
    OwnP n₀ (((W.setCell ⟨g, o0, none⟩ (.int .i64 m.1)).setCell ⟨g, o1, none⟩ (.bool m.2.1)).setCell ⟨g, o2, none⟩ m.2.2.1) (.slice (some ⟨g, 0, none⟩) M.length cap) (M.set i m) ∧
    Fr32 n₀ W (((W.setCell ⟨g, o0, none⟩ (.int .i64 m.1)).setCell ⟨g, o1, none⟩ (.bool m.2.1)).setCell ⟨g, o2, none⟩ m.2.2.1) := by
  subst e0 e1 e2
  have hrow := h.row
  have hlt := h.lt (j := g) rfl
  rcases h.1.2 with ⟨hv, hn⟩ | ⟨g', cp, cur, hv, h1, h2, h3, h4, h5, h6⟩
  · cases hv
  · cases hv
    have g1 := heap_setCell_same W g (i * 3) _ _ (.int .i64 m.1) h2
    have g2 := heap_setCell_same _ g (i * 3 + 1) _ _ (.bool m.2.1) g1
    have g3 := heap_setCell_same _ g (i * 3 + 2) _ _ m.2.2.1 g2
    have hcl : ∀ r, r < 3 → ∃ u, W.cell? ⟨g, i * 3 + r, none⟩ = some u ∧ ∀ x, u ≠ .int .u32 x := by
      intro r hr
      have hM : M[i]? = some M[i] := List.getElem?_eq_getElem hi
      have hc := (h.1.cellAt (j := i * 3 + r) (by rw [zPart_size]; omega)).trans (pcells_get M i M[i] hM r hr)
      have hl : r < (ptCells M[i]).length := hr
      refine ⟨(ptCells M[i])[r], hc.trans (List.getElem?_eq_getElem hl), fun x => not32 (hs _ (List.getElem_mem hi)) (List.getElem?_eq_getElem hl) x⟩
    have hk : K32 W (((W.setCell ⟨g, i * 3, none⟩ (.int .i64 m.1)).setCell ⟨g, i * 3 + 1, none⟩ (.bool m.2.1)).setCell ⟨g, i * 3 + 2, none⟩ m.2.2.1) := by
      intro a x hx
      have hne : ∀ r, r < 3 → (⟨g, i * 3 + r, none⟩ : Addr) ≠ a := by
        rintro r hr rfl
        obtain ⟨u, hu, hn⟩ := hcl r hr
        rw [hu] at hx
        cases hx
        exact hn x rfl
      have hne0 := hne 0 (by omega)
      rw [Nat.add_zero] at hne0
      rw [World.cell?_setCell_other _ _ _ _ (hne 2 (by omega)), World.cell?_setCell_other _ _ _ _ (hne 1 (by omega)), World.cell?_setCell_other _ _ _ _ hne0]
      exact hx
    have hb : Below n₀ W (((W.setCell ⟨g, i * 3, none⟩ (.int .i64 m.1)).setCell ⟨g, i * 3 + 1, none⟩ (.bool m.2.1)).setCell ⟨g, i * 3 + 2, none⟩ m.2.2.1) :=
      (((Below.refl n₀ W).setCell (p := ⟨g, i * 3, none⟩) h1 _).setCell (p := ⟨g, i * 3 + 1, none⟩) h1 _).setCell (p := ⟨g, i * 3 + 2, none⟩) h1 _
    refine ⟨⟨⟨?_, .inr ⟨g, cap, _, by rw [List.length_set], h1, g3, by rw [List.length_set]; exact h3, h4, ?_, ?_⟩⟩, ?_⟩, hb, hk⟩
    · rw [pcells_length]; rfl
    · simp only [Array.size_setIfInBounds]
      exact h5
    · rw [List.length_set]
      simp only [Array.toList_setIfInBounds]
      rw [List.take_set, List.take_set, List.take_set, h6, pcells_set]
    · intro g' j u hg hj hc
      simp only [Value.ownBlock, Option.some.injEq] at hg
      subst hg
      rw [List.length_set, zPart_size] at hj
      rw [World.cell?_setCell_other _ _ _ _ (by intro e; simp only [Addr.mk.injEq] at e; omega), World.cell?_setCell_other _ _ _ _ (by intro e; simp only [Addr.mk.injEq] at e; omega), World.cell?_setCell_other _ _ _ _ (by intro e; simp only [Addr.mk.injEq] at e; omega)] at hc
      exact h.2 g j u rfl (by rw [zPart_size]; exact hj) hc

/-- The first part of which something holds. -/
def IdxR (M : List Pt) (p : Pt → Bool) (r : Int) : Prop :=
  (r = -1 ∧ ∀ m ∈ M, p m = false) ∨ ∃ (k : Nat) (m : Pt), r = (k : Int) ∧ M[k]? = some m ∧ p m = true ∧ ∀ m' ∈ M.take k, p m' = false
def IdxE (w : World) (M : List Pt) (p : Pt → Bool) (e : Ending) (w' : World) : Prop := ∃ r, e = .returned (.int .i64 r) ∧ IdxR M p r ∧ Below w.heap.size w w'

/-- What is asked of a function value that tells of parts. -/
structure Tells (g : Nat) (lb : Array Value) (M : List Pt) (p : Pt → Bool) (n₀ : Nat) (I : World → Prop) : Prop where
  enters : ∀ args w, (callFunc g args).run Tryz.prog w = .ok (.enter g args) w
  keep : ∀ W W', I W → Fr32 n₀ W W' → I W'
  tells : ∀ W, I W → ∀ m ∈ M, Calls Tryz.prog g (#[.agg #[.int .i64 m.1, .bool m.2.1, m.2.2.1]] ++ lb) W fun e W' => e = .returned (.bool (p m)) ∧ Below W.heap.size W W'

theorem take_all_false {M : List Pt} {p : Pt → Bool} {k : Nat} {m : Pt} (h : ∀ m' ∈ M.take k, p m' = false) (hm : M[k]? = some m) (hp : p m = false) : ∀ m' ∈ M.take (k + 1), p m' = false := by
  intro m' hm'
  rw [List.take_add_one, hm] at hm'
  rcases List.mem_append.1 hm' with h1 | h1
  · exact h m' h1
  · simp at h1
    rw [h1]
    exact hp

set_option maxHeartbeats 4000000 in
theorem idx_calls {w : World} {v : Value} {M : List Pt} {g : Nat} {lb : Array Value} {p : Pt → Bool} {n₀ : Nat} {I : World → Prop} (ht : Tells g lb M p n₀ I) (hr : RowP w v M) (hlm : M.length ≤ 1048576) (hI : I w) (hn : n₀ ≤ w.heap.size) :
    Calls Tryz.prog 105 #[v, .func (.func g) #[] lb] w fun e w' => IdxE w M p e w' := by
  obtain ⟨ao, cap, rfl, h1, h2, h3⟩ := hr
  have H3 := hide h3
  have eg := ht.enters
  have HT := hide ht
  have HI := hide hI
  clear h3 ht hI
  generalize hLn : M.length = Ln at *
  have HLN := hide hLn
  clear hLn
  go_enter Tryz.func105, Tryz.ntmps105
  go_wp2
  go_loopw [8] (fun iv wr => ∃ k : Nat, k ≤ Ln ∧ iv = .int .i64 (k : Int) ∧ Below w.heap.size w wr ∧ (∀ m' ∈ M.take k, p m' = false)) (fun iv _ => Ln - (RowKit.intOf iv).toNat)
  case atStart => exact ⟨0, Nat.zero_le _, rfl, Below.refl _ _, fun m hm => by simp at hm⟩
  case round =>
    obtain ⟨k, hk, rfl, hb, ha⟩ := hrel
    have HB := hide hb
    have HA := hide ha
    clear hb ha
    by_cases hlt : k < Ln
    · obtain ⟨⟨vr, neg, mv, z⟩, hm⟩ : ∃ m, M[k]? = some m := ⟨_, List.getElem?_eq_getElem (by rw [HLN.out]; exact hlt)⟩
      obtain ⟨b, o, rfl, hc⟩ := H3.out k _ hm
      obtain ⟨c0, c1, c2⟩ := hc.below HB.out
      dsimp only at c0 c1 c2
      have hcall := HT.out.tells wr (HT.out.keep w wr HI.out (Fr32.of HB.out hn)) _ (List.mem_of_getElem? hm)
      dsimp only at hcall
      have HM := hide hm
      clear hm hc
      have d1 : (k : Int) < (Ln : Int) := by omega
      have d0 : (0 : Int) ≤ (k : Int) := by omega
      cases hq : p (vr, neg, mv, z) with
      | true =>
        rw [hq] at hcall
        have HQ := hide hq
        clear hq
        go_wp2_with (go_at_fn g; refine hcall.mono ?_; rintro e w' ⟨rfl, hb'⟩)
        go_ret
        exact ⟨_, rfl, .inr ⟨k, _, rfl, HM.out, HQ.out, HA.out⟩, bafter HB.out hb' (Nat.le_refl _)⟩
      | false =>
        rw [hq] at hcall
        have HQ := hide hq
        clear hq
        go_wp2_with (go_at_fn g; refine hcall.mono ?_; rintro e w' ⟨rfl, hb'⟩)
        go_roundw
        case rel => exact ⟨k + 1, by omega, by go_num, bafter HB.out hb' (Nat.le_refl _), take_all_false HA.out HM.out HQ.out⟩
        case measure => simp [RowKit.intOf]; omega
    · obtain rfl : k = Ln := by omega
      have d1 : ¬ (k : Int) < (k : Int) := by omega
      go_wp2
      go_ret
      refine ⟨_, rfl, .inl ⟨rfl, fun m hm => HA.out m ?_⟩, HB.out⟩
      rw [List.take_of_length_le (Nat.le_of_eq HLN.out)]
      exact hm

/-- The parts of one's own row from a place on become noughts. -/
theorem own_clear {n₀ : Nat} {W : World} {g cap i n : Nat} {M : List Pt} (hn : M.length = n) (h : OwnP n₀ W (.slice (some ⟨g, 0, none⟩) M.length cap) M) (hs : Sl M) (hi : i < M.length) (ty : TypeId) (c : Nat) :
    ∃ w', (Builtin.clear_ #[25] ty #[.slice (some ⟨g, i * 3, none⟩) (n - i) c]).run Tryz.prog W = .ok (.tuple #[]) w' ∧ OwnP n₀ w' (.slice (some ⟨g, 0, none⟩) i cap) (M.take i) ∧ Fr32 n₀ W w' := by
  subst hn
  obtain ⟨i0, hinfo, hz0, hz1, hz2⟩ := info_parts infoPart
  rcases h.1.2 with ⟨hv, hn⟩ | ⟨g', cp, cur, hv, h1, h2, h3, h4, h5, h6⟩
  · cases hv
  · cases hv
    have hzl : (Builtin.zeroCells zPart.cells (M.length - i)).toList.length = (M.length - i) * 3 := by
      rw [Array.length_toList, size_zeroCells]; rfl
    have hzm : ∀ u ∈ (Builtin.zeroCells zPart.cells (M.length - i)).toList, u ∈ zPart.cells.toList := by
      intro u hu
      obtain ⟨j, hj, rfl⟩ := List.getElem_of_mem hu
      exact mem_zeroCells (n := M.length - i) (i := j) (by rw [Array.getElem?_eq_getElem (by simpa using hj)]; simp)
    have hst := run_storeCells_at Tryz.prog g (i * 3) 89 (Builtin.zeroCells zPart.cells (M.length - i)).toList 0 cur W h2 (by rw [hzl, h5, zPart_size]; omega) (fun u hu => by
      have := hzm u hu
      simp [zPart, Value.cells] at this
      rcases this with rfl | rfl | rfl <;> rfl)
    simp only [Nat.add_zero, hzl] at hst
    rw [show i * 3 + (M.length - i) * 3 = M.length * 3 by omega] at hst
    obtain ⟨d, hd⟩ : ∃ d, M.length - i = d + 1 := ⟨M.length - i - 1, by omega⟩
    have hzv : (zeroValue 89).run Tryz.prog W = .ok zPart W := by
      simp [zeroValue, typeInfo, hinfo, hz0, zPart]
    generalize hZ : (Builtin.zeroCells zPart.cells (M.length - i)).toList = Z at *
    have hcs : cur.toList.length = cap * 3 := by rw [Array.length_toList, h5]; rfl
    have hcl1 : (cur.toList.take (i * 3)).length = i * 3 := by rw [List.length_take, hcs]; omega
    have hcl2 : (cur.toList.take (i * 3) ++ Z).length = M.length * 3 := by rw [List.length_append, hcl1, hzl]; omega
    have hcell : ∀ j, (W.setRow g (cur.toList.take (i * 3) ++ Z ++ cur.toList.drop (M.length * 3)).toArray).cell? ⟨g, j, none⟩ = (cur.toList.take (i * 3) ++ Z ++ cur.toList.drop (M.length * 3))[j]? := by
      intro j
      have h7 := setRow_heap W g cur (cur.toList.take (i * 3) ++ Z ++ cur.toList.drop (M.length * 3)).toArray 89 (0, 0) h2
      unfold World.cell?
      simp only [h7]
      simp
    have hold : ∀ j, W.cell? ⟨g, j, none⟩ = cur.toList[j]? := by
      intro j
      unfold World.cell?
      simp only [h2]
      simp
    have htk : cur.toList.take (i * 3) = pcells (M.take i) := by
      have e1 : cur.toList.take (i * 3) = (cur.toList.take (M.length * 3)).take (i * 3) := by rw [List.take_take]; congr 1; omega
      have e2 : cur.toList.take (M.length * 3) = pcells M := h6
      have e3 : M = M.take i ++ M.drop i := (List.take_append_drop i M).symm
      rw [e1, e2]
      conv => lhs; rw [e3, pcells_append]
      rw [show i * 3 = (pcells (M.take i)).length by rw [pcells_length, List.length_take]; congr 1; omega]
      exact List.take_left
    have hit : (M.take i).length = i := by rw [List.length_take]; omega
    refine ⟨W.setRow g (cur.toList.take (i * 3) ++ Z ++ cur.toList.drop (M.length * 3)).toArray, ?_, ⟨⟨?_, .inr ⟨g, cap, _, ?_, h1, setRow_heap W g cur _ _ _ h2, ?_, h4, ?_, ?_⟩⟩, ?_⟩, ?_, ?_⟩
    · rw [hd] at hZ
      rw [hd]
      simp [Builtin.clear_, run_underlying Tryz.underlying25, hzv, hZ, hst]
    · rw [pcells_length]; rfl
    · rw [hit]
    · rw [hit]; omega
    · simp only [List.size_toArray, List.length_append, List.length_drop, hcs]
      have := hcl2
      rw [List.length_append] at this
      show _ = cap * 3
      omega
    · rw [hit]
      show List.take (i * 3) _ = _
      have e4 : (cur.toList.take (i * 3) ++ Z ++ cur.toList.drop (M.length * 3)).toArray.toList = cur.toList.take (i * 3) ++ (Z ++ cur.toList.drop (M.length * 3)) := by simp
      rw [e4, htk]
      have e5 := List.take_left (l₁ := pcells (M.take i)) (l₂ := Z ++ cur.toList.drop (M.length * 3))
      rw [pcells_length, hit] at e5
      exact e5
    · intro g' j u hg hj hc
      simp only [Value.ownBlock, Option.some.injEq] at hg
      subst hg
      rw [hit, zPart_size] at hj
      rw [hcell] at hc
      by_cases hj2 : j < M.length * 3
      · rw [List.getElem?_append_left (by rw [hcl2]; exact hj2), List.getElem?_append_right (by rw [hcl1]; exact hj)] at hc
        exact hzm u (List.mem_of_getElem? hc)
      · rw [List.getElem?_append_right (by rw [hcl2]; omega), hcl2, List.getElem?_drop, show M.length * 3 + (j - M.length * 3) = j by omega, ← hold] at hc
        exact h.2 g j u rfl (by rw [zPart_size]; omega) hc
    · exact ⟨rfl, rfl, rfl, by simp, fun k hk => setRow_other W g k _ (by omega)⟩
    · intro a x hx
      by_cases hb : a.block = g
      · obtain ⟨ab, ao, asp⟩ := a
        have hs2 : asp = none := World.cell?_spot hx
        subst hs2
        simp only at hb
        subst hb
        have hlt : ¬ (i * 3 ≤ ao ∧ ao < M.length * 3) := by
          rintro ⟨q1, q2⟩
          have hq : ao / 3 < M.length := by omega
          have hc0 := pcells_get M (ao / 3) M[ao / 3] (List.getElem?_eq_getElem hq) (ao % 3) (Nat.mod_lt _ (by decide))
          rw [show ao / 3 * 3 + ao % 3 = ao by omega] at hc0
          have hc := (h.1.cellAt (j := ao) (by rw [zPart_size]; exact q2)).trans hc0
          rw [hx] at hc
          exact not32 (hs _ (List.getElem_mem hq)) hc.symm x rfl
        rw [hcell]
        rw [hold] at hx
        by_cases q1 : ao < i * 3
        · rw [List.append_assoc, List.getElem?_append_left (by rw [hcl1]; exact q1), List.getElem?_take, if_pos q1]
          exact hx
        · have q2 : M.length * 3 ≤ ao := by omega
          rw [List.getElem?_append_right (by rw [hcl2]; exact q2), hcl2, List.getElem?_drop, show M.length * 3 + (ao - M.length * 3) = ao by omega]
          exact hx
      · rw [World.cell?_of_block (setRow_other W g a.block _ hb)]
        exact hx

/-- What is left of parts, and what lies in the row meanwhile. -/
structure Mid (M X : List Pt) (p : Pt → Bool) (i j : Nat) : Prop where
  len : X.length = M.length
  lt : i < j
  le : j ≤ M.length
  done : X.take i = (M.take j).filter fun m => !p m
  rest : X.drop j = M.drop j
  sl : Sl X
theorem Mid.at {M X : List Pt} {p : Pt → Bool} {i j : Nat} (h : Mid M X p i j) {m : Pt} (hm : M[j]? = some m) : X[j]? = some m := by
  have e := congrArg (fun l => l[0]?) h.rest
  simp only [List.getElem?_drop, Nat.add_zero] at e
  rw [e, hm]
theorem Mid.skip {M X : List Pt} {p : Pt → Bool} {i j : Nat} (h : Mid M X p i j) {m : Pt} (hm : M[j]? = some m) (hp : p m = true) : Mid M X p i (j + 1) := by
  have hj : j < M.length := (List.getElem?_eq_some_iff.1 hm).1
  refine ⟨h.len, by have := h.lt; omega, hj, ?_, ?_, h.sl⟩
  · rw [h.done, List.take_add_one, hm, List.filter_append]
    simp [hp]
  · have := congrArg (List.drop 1) h.rest
    rw [List.drop_drop, List.drop_drop] at this
    exact this
theorem Mid.take {M X : List Pt} {p : Pt → Bool} {i j : Nat} (h : Mid M X p i j) {m : Pt} (hm : M[j]? = some m) (hp : p m = false) (hs : ∃ a L c, m.2.2.1 = .slice a L c) : Mid M (X.set i m) p (i + 1) (j + 1) := by
  have hj : j < M.length := (List.getElem?_eq_some_iff.1 hm).1
  have hi := h.lt
  have hl := h.len
  refine ⟨by rw [List.length_set]; exact hl, by omega, hj, ?_, ?_, ?_⟩
  · rw [List.take_add_one, List.getElem?_set_self (by omega), List.take_set_of_le (by omega), h.done, List.take_add_one, hm, List.filter_append]
    simp [hp]
  · rw [List.drop_set_of_lt (by omega)]
    have := congrArg (List.drop 1) h.rest
    rw [List.drop_drop, List.drop_drop] at this
    exact this
  · intro x hx
    rcases List.mem_or_eq_of_mem_set hx with h1 | h1
    · exact h.sl x h1
    · rw [h1]; exact hs
theorem mid_start {M : List Pt} {p : Pt → Bool} {k : Nat} {m : Pt} (hm : M[k]? = some m) (hp : p m = true) (hf : ∀ m' ∈ M.take k, p m' = false) (hs : Sl M) : Mid M M p k (k + 1) := by
  have hk : k < M.length := (List.getElem?_eq_some_iff.1 hm).1
  refine ⟨rfl, by omega, hk, ?_, rfl, hs⟩
  rw [List.take_add_one, hm, List.filter_append, List.filter_eq_self.2 (fun x hx => by simp [hf x hx])]
  simp [hp]

def DelE (n₀ : Nat) (w : World) (M : List Pt) (p : Pt → Bool) (e : Ending) (w' : World) : Prop := ∃ v', e = .returned v' ∧ OwnP n₀ w' v' (M.filter fun m => !p m) ∧ Fr32 n₀ w w'

set_option maxHeartbeats 8000000 in
theorem del_calls {w : World} {v : Value} {M : List Pt} {g : Nat} {lb : Array Value} {p : Pt → Bool} {n₀ : Nat} {I : World → Prop} (ht : Tells g lb M p n₀ I) (hown : OwnP n₀ w v M) (hsl : Sl M) (hlm : M.length ≤ 1048576) (hI : I w) (hn : n₀ ≤ w.heap.size) :
    Calls Tryz.prog 69 #[v, .func (.func g) #[] lb] w fun e w' => DelE n₀ w M p e w' := by
  have hidx := idx_calls ht hown.row hlm hI hn
  have eg := ht.enters
  have HT := hide ht
  have HI := hide hI
  have HO := hide hown
  have HS := hide hsl
  obtain ⟨ao, cap, rfl, q1, q2⟩ := hown.len
  clear ht hI hown hsl
  generalize hLn : M.length = Ln at *
  have HLN := hide hLn
  clear hLn
  go_enter Tryz.func69, Tryz.ntmps69
  go_wp2_with fail
  refine hidx.mono ?_
  rintro e w1 ⟨r, rfl, hr, hb1⟩
  have HB1 := hide hb1
  clear hidx hb1
  rcases hr with ⟨rfl, hall⟩ | ⟨k, m, rfl, hm, hpm, hf⟩
  · have HALL := hide hall
    clear hall
    go_wp2
    go_ret
    refine ⟨_, rfl, ?_, Fr32.of HB1.out hn⟩
    rw [List.filter_eq_self.2 (fun x hx => by simp [HALL.out x hx])]
    exact HO.out.below HB1.out
  · have HMID := hide (mid_start hm hpm hf HS.out)
    have hk : k < Ln := by
      have := (List.getElem?_eq_some_iff.1 hm).1
      rw [← HLN.out]
      exact this
    clear hm hpm hf
    obtain ⟨g0, rfl⟩ : ∃ g0, ao = some ⟨g0, 0, none⟩ := by
      rcases HO.out.1.2 with ⟨hv, hn2⟩ | ⟨g', cp, cur, hv, _⟩
      · have := HLN.out
        omega
      · cases hv
        exact ⟨_, rfl⟩
    have hkn : ¬ (k : Int) = -1 := by omega
    have hkb : ((k : Int) == -1) = false := beq_eq_false_iff_ne.2 hkn
    go_wp2
    go_loopw [5, 6] (fun iv jv wr => ∃ (i j : Nat) (X : List Pt), iv = .int .i64 (i : Int) ∧ jv = .int .i64 (j : Int) ∧ Mid M X p i j ∧ OwnP n₀ wr (.slice (some ⟨g0, 0, none⟩) Ln cap) X ∧ Fr32 n₀ w wr) (fun _ jv _ => Ln - (RowKit.intOf jv).toNat)
    case atStart => exact ⟨k, k + 1, M, rfl, by go_num, HMID.out, HO.out.below HB1.out, Fr32.of HB1.out hn⟩
    case round =>
      obtain ⟨i, j, X, rfl, rfl, hmid, ho, hfr⟩ := hrel
      have hij := hmid.lt
      have hjl := hmid.le
      rw [HLN.out] at hjl
      have HMD := hide hmid
      have HOX := hide ho
      have HF := hide hfr
      clear hmid ho hfr
      have hIr := HT.out.keep _ _ HI.out HF.out
      have HIR := hide hIr
      clear hIr
      have hXl : X.length = Ln := by rw [← HLN.out]; exact HMD.out.len
      have HXL := hide hXl
      have hgl := HOX.out.lt (j := g0) rfl
      by_cases hlt : j < Ln
      · obtain ⟨⟨vr, neg, mv, z⟩, hm⟩ : ∃ m, M[j]? = some m := ⟨_, List.getElem?_eq_getElem (by rw [HLN.out]; exact hlt)⟩
        obtain ⟨ao2, cp2, e2, _, _, hcs⟩ := HOX.out.row
        rw [hXl] at e2
        simp only [Value.slice.injEq, true_and] at e2
        obtain ⟨rfl, rfl⟩ := e2
        obtain ⟨b, o, e3, hc⟩ := hcs j _ (HMD.out.at hm)
        obtain ⟨rfl, rfl⟩ : g0 = b ∧ 0 = o := by simpa using e3
        obtain ⟨c0, c1, c2⟩ := hc
        simp only [Nat.zero_add] at c0 c1 c2
        obtain ⟨ma, mL, mc, hmv⟩ := HS.out _ (List.mem_of_getElem? hm)
        simp only at hmv
        subst hmv
        have HM := hide hm
        clear hm hcs e3 hXl
        have d1 : (j : Int) < (Ln : Int) := by omega
        have d0 : (0 : Int) ≤ (j : Int) := by omega
        have i1 : (i : Int) < (Ln : Int) := by omega
        have i0 : (0 : Int) ≤ (i : Int) := by omega
        have hbel := bel wr (.cells #[.int .i64 vr, .bool neg, .slice ma mL mc] 89)
        have hcall := HT.out.tells _ (HT.out.keep _ _ HIR.out (Fr32.of hbel (Nat.le_trans hgl.1 (Nat.le_of_lt hgl.2)))) _ (List.mem_of_getElem? HM.out)
        dsimp only at hcall
        have HBEL := hide hbel
        clear hbel
        cases hq : p (vr, neg, .slice ma mL mc, z) with
        | true =>
          rw [hq] at hcall
          have HQ := hide hq
          clear hq
          go_wp2_with fail
          refine hcall.mono ?_
          rintro e w2 ⟨rfl, hb2⟩
          have HB2 := hide (bafter HBEL.out hb2 (by simp))
          clear hb2 hcall
          go_wp2
          go_roundw
          case rel => exact ⟨i, j + 1, X, rfl, by go_num, HMD.out.skip HM.out HQ.out, HOX.out.below HB2.out, HF.out.trans (Fr32.of HB2.out (Nat.le_trans hgl.1 (Nat.le_of_lt hgl.2)))⟩
          case measure => simp [RowKit.intOf]; omega
        | false =>
          rw [hq] at hcall
          have HQ := hide hq
          clear hq
          go_wp2_with fail
          refine hcall.mono ?_
          rintro e w2 ⟨rfl, hb2⟩
          have HB2 := hide (bafter HBEL.out hb2 (by simp))
          have b0 : w2.cell? ⟨wr.heap.size, 0, none⟩ = some (.int .i64 vr) := (hb2.cell (p := ⟨wr.heap.size, 0, none⟩) (by simp)).trans (by simp [World.cell?_alloc_mark])
          have b1 : w2.cell? ⟨wr.heap.size, 1, none⟩ = some (.bool neg) := (hb2.cell (p := ⟨wr.heap.size, 1, none⟩) (by simp)).trans (by simp [World.cell?_alloc_mark])
          have b2 : w2.cell? ⟨wr.heap.size, 2, none⟩ = some (.slice ma mL mc) := (hb2.cell (p := ⟨wr.heap.size, 2, none⟩) (by simp)).trans (by simp [World.cell?_alloc_mark])
          have hO2 := HOX.out.below HB2.out
          obtain ⟨x, hx⟩ : ∃ x, X[i]? = some x := ⟨_, List.getElem?_eq_getElem (by rw [HXL.out]; omega)⟩
          obtain ⟨ao3, cp3, e4, _, _, hcs3⟩ := hO2.row
          rw [HXL.out] at e4
          simp only [Value.slice.injEq, true_and] at e4
          obtain ⟨rfl, rfl⟩ := e4
          obtain ⟨b', o', e5, hc3⟩ := hcs3 i _ hx
          obtain ⟨rfl, rfl⟩ : g0 = b' ∧ 0 = o' := by simpa using e5
          obtain ⟨f0, f1, f2⟩ := hc3
          simp only [Nat.zero_add] at f0 f1 f2
          have fz : ∀ q, w2.frozen? ⟨g0, q, none⟩ = false := by
            rcases hO2.1.2 with ⟨hv, _⟩ | ⟨g', cp', cur', hv, _, hh, _⟩
            · cases hv
            · cases hv
              exact fun q => frozen_of_row w2 g0 q _ _ hh
          have z0 := fz (i * 3)
          have z1 := fz (i * 3 + 1)
          have z2 := fz (i * 3 + 2)
          have HO2 := hide hO2
          have n0 : g0 ≠ wr.heap.size := by have := hgl.2; omega
          clear hb2 hcall hcs3 e5 fz hO2 hx
          go_wp2
          go_roundw
          case rel =>
            have hp := OwnP.put (M := X) (by rw [HXL.out]; exact HO2.out) HMD.out.sl (i := i) (by rw [HXL.out]; omega) (vr, neg, .slice ma mL mc, z) rfl rfl rfl
            rw [HXL.out] at hp
            exact ⟨i + 1, j + 1, X.set i (vr, neg, .slice ma mL mc, z), by go_num, by go_num, HMD.out.take HM.out HQ.out ⟨_, _, _, rfl⟩, hp.1, (HF.out.trans (Fr32.of HB2.out (Nat.le_trans hgl.1 (Nat.le_of_lt hgl.2)))).trans hp.2⟩
          case measure => simp [RowKit.intOf]; omega
      · obtain rfl : j = Ln := by omega
        have d1 : ¬ (j : Int) < (j : Int) := by omega
        have i1 : (i : Int) < (j : Int) := by omega
        have i0 : (0 : Int) ≤ (i : Int) := by omega
        have i2 : (i : Int) ≤ (cap : Int) := by omega
        have i3 : ¬ cap = i := by omega
        have i4 : (i : Int) ≤ (j : Int) := by omega
        obtain ⟨wc, hrun, hoc, hfc⟩ := own_clear (M := X) (i := i) (n := j) (cap := cap) HXL.out (by rw [HXL.out]; exact HOX.out) HMD.out.sl (by rw [HXL.out]; omega) 0 (cap - i)
        have HOC := hide hoc
        have HFC := hide hfc
        clear hoc hfc hXl
        go_wp2
        go_ret
        refine ⟨_, rfl, ?_, HF.out.trans HFC.out⟩
        have e := HMD.out.done
        rw [← HLN.out, List.take_length] at e
        rw [← e]
        exact HOC.out

end Go.Proofs.YtbjolmgobeagoaaGreatDoor
