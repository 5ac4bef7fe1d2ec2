/- Sums in memory: rows of parts, each a variable and a number; what growth of such rows keeps. -/
import Derived.Test.YtbjolmgobeagoaaGreatDoorLnPure
import Derived.Test.YtbjolmgobeagoaaGreatDoorLnRow
import Derived.Lib.OwnKind
namespace Go.Proofs.YtbjolmgobeagoaaGreatDoor
set_option linter.unusedVariables false
set_option linter.unusedSimpArgs false
set_option maxRecDepth 100000
open Go Go.RowKit Go.Shelf Go.Lib

theorem infoPart : (Tryz.prog.info? 89).map (fun i => (i.zero, i.size, i.bytes)) = some (some (.agg #[.int .i64 0, .bool false, .slice none 0 0]), 3, 40) := by kernel_rfl

/-- A part: its variable, its number's sign and limbs, and the number. -/
abbrev Pt := Int × Bool × Value × Int
def ptCells (m : Pt) : List Value := [.int .i64 m.1, .bool m.2.1, m.2.2.1]
def pcells (M : List Pt) : List Value := M.flatMap ptCells
def pt (m : Pt) : Int × Int := (m.1, m.2.2.2)
def ps (M : List Pt) : Ps := M.map pt
def Rng (v : Int) : Prop := -9223372036854775808 ≤ v ∧ v ≤ 9223372036854775807
def GoodA (W : World) (M : List Pt) : Prop := ∀ m ∈ M, Rng m.1 ∧ BArg W (.agg #[.bool m.2.1, m.2.2.1]) m.2.2.2
def GoodR (W : World) (M : List Pt) : Prop := ∀ m ∈ M, Rng m.1 ∧ BRes W (.agg #[.bool m.2.1, m.2.2.1]) m.2.2.2
/-- Numbers are less than so many limbs. -/
def Bnd (k : Nat) (l : Ps) : Prop := ∀ p ∈ l, p.2.natAbs < R ^ k

theorem pcells_nil : pcells [] = [] := rfl
theorem pcells_cons (m : Pt) (M : List Pt) : pcells (m :: M) = ptCells m ++ pcells M := rfl
theorem pcells_append (A B : List Pt) : pcells (A ++ B) = pcells A ++ pcells B := by simp [pcells]
theorem pcells_length (M : List Pt) : (pcells M).length = M.length * 3 := by
  induction M with
  | nil => rfl
  | cons m M ih => rw [pcells_cons, List.length_append, ih, List.length_cons]; simp only [ptCells, List.length_cons, List.length_nil]; omega
theorem pcells_get : ∀ (M : List Pt) (j : Nat) (m : Pt), M[j]? = some m → ∀ i, i < 3 → (pcells M)[j * 3 + i]? = (ptCells m)[i]? := by
  intro M
  induction M with
  | nil => intro j t h; simp at h
  | cons a l ih =>
    intro j t h i hi
    have el : (ptCells a).length = 3 := rfl
    rw [pcells_cons]
    cases j with
    | zero =>
      simp at h
      subst h
      rw [List.getElem?_append_left (by omega)]
      congr 1
      omega
    | succ j =>
      rw [List.getElem?_append_right (by omega), el, show (j + 1) * 3 + i - 3 = j * 3 + i by omega]
      exact ih j t (by simpa using h) i hi

/-- The cells of a part. -/
def CellsP (W : World) (b o : Nat) (m : Pt) : Prop := W.cell? ⟨b, o, none⟩ = some (.int .i64 m.1) ∧ W.cell? ⟨b, o + 1, none⟩ = some (.bool m.2.1) ∧ W.cell? ⟨b, o + 2, none⟩ = some m.2.2.1
/-- A row of parts. -/
def RowP (W : World) (v : Value) (M : List Pt) : Prop :=
  ∃ ao cap, v = .slice ao M.length cap ∧ M.length ≤ cap ∧ cap ≤ maxLen ∧ ∀ j m, M[j]? = some m → ∃ b o, ao = some ⟨b, o, none⟩ ∧ CellsP W b (o + j * 3) m

theorem block_ltP {W : World} {b o : Nat} {m : Pt} (h : CellsP W b o m) : b < W.heap.size := block_lt_of_cell h.1
theorem CellsP.keep {W W' : World} {b o : Nat} {m : Pt} (h : CellsP W b o m) (hk : ∀ (a : Addr) u, W.cell? a = some u → a.block = b → W'.cell? a = some u) : CellsP W' b o m :=
  ⟨hk _ _ h.1 rfl, hk _ _ h.2.1 rfl, hk _ _ h.2.2 rfl⟩
theorem CellsP.below {W W' : World} {b o : Nat} {m : Pt} (h : CellsP W b o m) (hb : Below W.heap.size W W') : CellsP W' b o m :=
  h.keep (fun a u hc e => (hb.cell (p := a) (by rw [e]; exact block_ltP h)).trans hc)
theorem CellsP.below' {n : Nat} {W W' : World} {b o : Nat} {m : Pt} (h : CellsP W b o m) (hb : Below n W W') (hn : b < n := by assumption) : CellsP W' b o m :=
  h.keep (fun a u hc e => (hb.cell (p := a) (by rw [e]; exact hn)).trans hc)
theorem RowP.below {W W' : World} {v : Value} {M : List Pt} (h : RowP W v M) (hb : Below W.heap.size W W') : RowP W' v M := by
  obtain ⟨ao, cap, e, h1, h2, h3⟩ := h
  refine ⟨ao, cap, e, h1, h2, fun j m hj => ?_⟩
  obtain ⟨b, o, e2, hc⟩ := h3 j m hj
  exact ⟨b, o, e2, hc.below hb⟩
theorem GoodA.below {W W' : World} {M : List Pt} (h : GoodA W M) (hb : Below W.heap.size W W') : GoodA W' M := fun m hm => ⟨(h m hm).1, (h m hm).2.below hb⟩
theorem GoodR.below {W W' : World} {M : List Pt} (h : GoodR W M) (hb : Below W.heap.size W W') : GoodR W' M := fun m hm => ⟨(h m hm).1, (h m hm).2.below hb⟩

/-- All limbs in memory are kept. -/
def K32 (W W' : World) : Prop := ∀ (a : Addr) (x : Int), W.cell? a = some (.int .u32 x) → W'.cell? a = some (.int .u32 x)
theorem K32.refl (W : World) : K32 W W := fun _ _ h => h
theorem K32.trans {A B C : World} (h : K32 A B) (k : K32 B C) : K32 A C := fun a x hx => k a x (h a x hx)
theorem K32.of {W W' : World} (hb : Below W.heap.size W W') : K32 W W' := fun a x h => (hb.cell (p := a) (block_lt_of_cell h)).trans h
theorem Limbs.k32 {W W' : World} {v : Value} {zs : List Nat} (h : Limbs W v zs) (hk : K32 W W') : Limbs W' v zs := by
  obtain ⟨ao, cap, e, h1, h2, h3, h4⟩ := h
  refine ⟨ao, cap, e, h1, h2, h3, fun j hj => ?_⟩
  obtain ⟨bb, off, e2, hc⟩ := h4 j hj
  exact ⟨bb, off, e2, hk _ _ hc⟩
theorem BArg.k32 {W W' : World} {v : Value} {z : Int} (h : BArg W v z) (hk : K32 W W') : BArg W' v z := by
  obtain ⟨neg, mv, n, h1, ⟨xs, h2, h3⟩, h4⟩ := h
  exact ⟨neg, mv, n, h1, ⟨xs, h2.k32 hk, h3⟩, h4⟩
theorem BRes.k32 {W W' : World} {v : Value} {z : Int} (h : BRes W v z) (hk : K32 W W') : BRes W' v z := by
  obtain ⟨mv, h1, ⟨xs, h2, h3⟩⟩ := h
  exact ⟨mv, h1, ⟨xs, h2.k32 hk, h3⟩⟩
theorem GoodA.k32 {W W' : World} {M : List Pt} (h : GoodA W M) (hk : K32 W W') : GoodA W' M := fun m hm => ⟨(h m hm).1, (h m hm).2.k32 hk⟩
theorem GoodR.k32 {W W' : World} {M : List Pt} (h : GoodR W M) (hk : K32 W W') : GoodR W' M := fun m hm => ⟨(h m hm).1, (h m hm).2.k32 hk⟩

/-- The nought of a part. -/
def zPart : Value := .agg #[.int .i64 0, .bool false, .slice none 0 0]
theorem zPart_size : zPart.cells.size = 3 := rfl
/-- A row of parts of one's own. -/
def OwnP (n₀ : Nat) (W : World) (v : Value) (M : List Pt) : Prop := OwnZ W n₀ 89 zPart v M.length (pcells M)
theorem OwnP.nil (n₀ : Nat) (W : World) : OwnP n₀ W (.slice none 0 0) [] := ownZ_nil _ _ _ _
theorem OwnP.len {n₀ : Nat} {W : World} {v : Value} {M : List Pt} (h : OwnP n₀ W v M) : ∃ ao cap, v = .slice ao M.length cap ∧ M.length ≤ cap ∧ cap ≤ maxLen := by
  rcases h.1.2 with ⟨hv, hn⟩ | ⟨g, cap, cur, hv, hg, hh, hc1, hc2, hc3⟩
  · exact ⟨none, 0, by rw [hv, hn], by omega, by simp [maxLen]⟩
  · exact ⟨_, _, hv, hc1, hc2⟩
theorem OwnP.row {n₀ : Nat} {W : World} {v : Value} {M : List Pt} (h : OwnP n₀ W v M) : RowP W v M := by
  rcases h.1.2 with ⟨hv, hn⟩ | ⟨g, cap, cur, hv, hg, hh, hc1, hc2, hc3⟩
  · refine ⟨none, 0, by rw [hv, hn], by omega, by simp [maxLen], fun j t hj => ?_⟩
    have : M = [] := List.length_eq_zero_iff.1 hn
    rw [this] at hj
    simp at hj
  · subst hv
    refine ⟨some ⟨g, 0, none⟩, cap, rfl, hc1, hc2, fun j m hj => ⟨g, 0, rfl, ?_⟩⟩
    have hlt : j < M.length := (List.getElem?_eq_some_iff.1 hj).1
    have c := fun i (hi : i < 3) => (h.1.cellAt (j * 3 + i) (by rw [zPart_size]; omega)).trans (pcells_get M j m hj i hi)
    simp only [Nat.zero_add]
    exact ⟨c 0 (by omega), c 1 (by omega), c 2 (by omega)⟩
theorem OwnP.lt {n₀ : Nat} {W : World} {v : Value} {M : List Pt} (h : OwnP n₀ W v M) {j : Nat} (hj : v.ownBlock = some j) : n₀ ≤ j ∧ j < W.heap.size := World.ownsRow.lt h.1 j hj
theorem OwnP.block {n₀ : Nat} {W W' : World} {v : Value} {M : List Pt} (h : OwnP n₀ W v M) (hk : ∀ k, v.ownBlock = some k → W'.heap[k]? = W.heap[k]?) : OwnP n₀ W' v M := by
  refine ⟨⟨h.1.1, ?_⟩, fun g i u hg hi hc => ?_⟩
  · rcases h.1.2 with hn | ⟨g, cap, cur, hv, h1, h2, h3⟩
    · exact .inl hn
    · exact .inr ⟨g, cap, cur, hv, h1, (hk g (by rw [hv]; rfl)).trans h2, h3⟩
  · rw [World.cell?_of_block (a := ⟨g, i, none⟩) (hk g hg)] at hc
    exact h.2 g i u hg hi hc
theorem OwnP.below {n₀ : Nat} {W W' : World} {v : Value} {M : List Pt} (h : OwnP n₀ W v M) (hb : Below W.heap.size W W') : OwnP n₀ W' v M :=
  h.block (fun k hk => hb.block k (h.lt hk).2)

theorem keptZ_k32 {w w' : World} {row : Option Nat} {len : Nat} (h : KeptZ w w' zPart row len) : K32 w w' := fun a x hc => h a _ hc (.inl (by simp [zPart, Value.cells]))

/-- Appending parts to a row of one's own. -/
theorem run_appP (w : World) (n₀ : Nat) (ty : TypeId) (v : Value) (M : List Pt) (hown : OwnP n₀ w v M) (xv : Value) (N : List Pt) (hN : RowP w xv N) (hone : ∀ m ∈ N, m.2.2.1.oneCell' = true) (hl : M.length + N.length ≤ 1048576) (hbase : n₀ ≤ w.heap.size) :
    ∃ v' w', (Builtin.append_ #[25, 25] ty #[v, xv]).run Tryz.prog w = .ok v' w' ∧ OwnP n₀ w' v' (M ++ N) ∧ w.grownBy w' v.ownBlock ∧ (v'.ownBlock = v.ownBlock ∨ v'.ownBlock = some w.heap.size) ∧ K32 w w' := by
  obtain ⟨i0, hi, hz0, hz1, hz2⟩ := info_parts infoPart
  obtain ⟨ao, cap, rfl, h1, h2, h3⟩ := hN
  cases ao with
  | none =>
    have hd0 : N = [] := by
      cases N with
      | nil => rfl
      | cons y r => obtain ⟨b, off, e, _⟩ := h3 0 y rfl; cases e
    subst hd0
    refine ⟨v, w, ?_, by rw [List.append_nil]; exact hown, ⟨rfl, rfl, rfl, Nat.le_refl _, fun _ _ _ => rfl⟩, .inl rfl, K32.refl _⟩
    rcases hown.1.2 with ⟨rfl, h0⟩ | ⟨g, cp, cur, rfl, _, _, hnc, _⟩
    · simp [Builtin.append_, run_underlying Tryz.underlying25, sizeOf, typeInfo, hi, Builtin.lenOf, Builtin.firstCells]
    · simp [Builtin.append_, run_underlying Tryz.underlying25, sizeOf, typeInfo, hi, Builtin.lenOf, Builtin.firstCells, hnc, storeCells]
  | some ad =>
    by_cases hN0 : N = []
    · subst hN0
      obtain ⟨v', w', hr, ho, hg, ha, hk⟩ := run_appZ (P := Tryz.prog) w n₀ 25 ty 89 i0 zPart 40 Tryz.underlying25 hi hz0 hz1 hz2 (by decide) v M.length (pcells M) hown ad 0 cap [] rfl (fun j u h => by simp at h) (fun u h => by cases h) (by unfold maxLen; simp at hl; omega) (by simp at hl; omega) hbase
      exact ⟨v', w', hr, by rw [List.append_nil]; unfold OwnP; simpa using ho, hg, ha, keptZ_k32 hk⟩
    · have had : ad.spot = none := by
        obtain ⟨y, r, rfl⟩ : ∃ y r, N = y :: r := by cases N with | nil => exact absurd rfl hN0 | cons y r => exact ⟨y, r, rfl⟩
        obtain ⟨b, off, e, _⟩ := h3 0 y rfl
        cases e
        rfl
      have hq1 : ∀ (j : Nat) (u : Value), (pcells N)[j]? = some u → w.cell? (ad.add j) = some u := by
        intro j u hj
        have hjl : j < N.length * 3 := by rw [← pcells_length]; exact (List.getElem?_eq_some_iff.1 hj).1
        have hq : j / 3 < N.length := by omega
        obtain ⟨b, off, e, hc⟩ := h3 (j / 3) N[j / 3] (List.getElem?_eq_getElem hq)
        cases e
        have hget := pcells_get N (j / 3) N[j / 3] (List.getElem?_eq_getElem hq) (j % 3) (Nat.mod_lt _ (by decide))
        rw [show j / 3 * 3 + j % 3 = j by omega, hj] at hget
        rw [addr_add]
        have h3' : j % 3 = 0 ∨ j % 3 = 1 ∨ j % 3 = 2 := by omega
        rcases h3' with e | e | e
        · rw [e] at hget
          rw [show off + j = off + j / 3 * 3 by omega, hc.1, hget]; rfl
        · rw [e] at hget
          rw [show off + j = off + j / 3 * 3 + 1 by omega, hc.2.1, hget]; rfl
        · rw [e] at hget
          rw [show off + j = off + j / 3 * 3 + 2 by omega, hc.2.2, hget]; rfl
      have hq2 : ∀ u ∈ pcells N, u.oneCell' = true := by
        intro u hu
        obtain ⟨m, hm, hu2⟩ := List.mem_flatMap.1 hu
        simp only [ptCells, List.mem_cons, List.mem_nil_iff, or_false] at hu2
        rcases hu2 with rfl | rfl | rfl
        · rfl
        · rfl
        · exact hone m hm
      obtain ⟨v', w', hr, ho, hg, ha, hk⟩ := run_appZ (P := Tryz.prog) w n₀ 25 ty 89 i0 zPart 40 Tryz.underlying25 hi hz0 hz1 hz2 (by decide) v M.length (pcells M) hown ad N.length cap (pcells N) (pcells_length N) hq1 hq2 (by unfold maxLen; omega) (by omega) hbase
      exact ⟨v', w', hr, by unfold OwnP; rw [List.length_append, pcells_append]; exact ho, hg, ha, keptZ_k32 hk⟩

end Go.Proofs.YtbjolmgobeagoaaGreatDoor
