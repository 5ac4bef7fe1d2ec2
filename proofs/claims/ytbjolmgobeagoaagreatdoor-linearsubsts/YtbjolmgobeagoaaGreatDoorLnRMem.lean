/- Sums of the reference in memory. -/
import Derived.Test.YtbjolmgobeagoaaGreatDoorLnHelp
namespace Go.Proofs.YtbjolmgobeagoaaGreatDoor
set_option linter.unusedVariables false
set_option linter.unusedSimpArgs false
set_option maxRecDepth 100000
open Go Go.RowKit Go.Shelf Go.Lib

theorem infoRPart : (Tryz.prog.info? 79).map (fun i => (i.zero, i.size, i.bytes)) = some (some (.agg #[.int .i64 0, .bool false, .slice none 0 0]), 3, 40) := by kernel_rfl
/-- A row of parts of one's own. -/
def OwnQ (n₀ : Nat) (W : World) (v : Value) (M : List Pt) : Prop := OwnZ W n₀ 79 zPart v M.length (pcells M)
theorem OwnQ.nil (n₀ : Nat) (W : World) : OwnQ n₀ W (.slice none 0 0) [] := ownZ_nil _ _ _ _
theorem OwnQ.len {n₀ : Nat} {W : World} {v : Value} {M : List Pt} (h : OwnQ n₀ W v M) : ∃ ao cap, v = .slice ao M.length cap ∧ M.length ≤ cap ∧ cap ≤ maxLen := by
  rcases h.1.2 with ⟨hv, hn⟩ | ⟨g, cap, cur, hv, hg, hh, hc1, hc2, hc3⟩
  · exact ⟨none, 0, by rw [hv, hn], by omega, by simp [maxLen]⟩
  · exact ⟨_, _, hv, hc1, hc2⟩
theorem OwnQ.row {n₀ : Nat} {W : World} {v : Value} {M : List Pt} (h : OwnQ n₀ W v M) : RowP W v M := by
  rcases h.1.2 with ⟨hv, hn⟩ | ⟨g, cap, cur, hv, hg, hh, hc1, hc2, hc3⟩
  · refine ⟨none, 0, by rw [hv, hn], by omega, by simp [maxLen], fun j t hj => ?_⟩
    have : M = [] := List.length_eq_zero_iff.1 hn
    rw [this] at hj
    simp at hj
  · subst hv
    refine ⟨some ⟨g, 0, none⟩, cap, rfl, hc1, hc2, fun j m hj => ⟨g, 0, rfl, ?_⟩⟩
    have hlt : j < M.length := (List.getElem?_eq_some_iff.1 hj).1
    have c := fun i (hi : i < 3) => (h.1.cellAt (j * 3 + i) (by rw [zPart_size]; omega)).trans (pcells_get M j m hj i hi)
    simp only [Nat.zero_add]
    exact ⟨c 0 (by omega), c 1 (by omega), c 2 (by omega)⟩
theorem OwnQ.lt {n₀ : Nat} {W : World} {v : Value} {M : List Pt} (h : OwnQ n₀ W v M) {j : Nat} (hj : v.ownBlock = some j) : n₀ ≤ j ∧ j < W.heap.size := World.ownsRow.lt h.1 j hj
theorem OwnQ.block {n₀ : Nat} {W W' : World} {v : Value} {M : List Pt} (h : OwnQ n₀ W v M) (hk : ∀ k, v.ownBlock = some k → W'.heap[k]? = W.heap[k]?) : OwnQ n₀ W' v M := by
  refine ⟨⟨h.1.1, ?_⟩, fun g i u hg hi hc => ?_⟩
  · rcases h.1.2 with hn | ⟨g, cap, cur, hv, h1, h2, h3⟩
    · exact .inl hn
    · exact .inr ⟨g, cap, cur, hv, h1, (hk g (by rw [hv]; rfl)).trans h2, h3⟩
  · rw [World.cell?_of_block (a := ⟨g, i, none⟩) (hk g hg)] at hc
    exact h.2 g i u hg hi hc
theorem OwnQ.below {n₀ : Nat} {W W' : World} {v : Value} {M : List Pt} (h : OwnQ n₀ W v M) (hb : Below W.heap.size W W') : OwnQ n₀ W' v M :=
  h.block (fun k hk => hb.block k (h.lt hk).2)

/-- All digits of numbers are kept. -/
def KR (W W' : World) : Prop := ∀ v n, RRes W v n → RRes W' v n
theorem KR.refl (W : World) : KR W W := fun _ _ h => h
theorem KR.trans {A B C : World} (h : KR A B) (k : KR B C) : KR A C := fun v n hr => k v n (h v n hr)
theorem KR.of {W W' : World} (hb : Below W.heap.size W W') : KR W W' := fun v n h => h.below hb
theorem NRes.kr {W W' : World} {v : Value} {z : Int} (h : NRes W v z) (hk : KR W W') : NRes W' v z := by
  obtain ⟨dv, h1, h2⟩ := h
  exact ⟨dv, h1, hk _ _ h2⟩
theorem ButN.kr {b : Nat} {W W' : World} (h : ButN b W W') : KR W W' := by
  rintro v n ⟨ds, ⟨ao, cap, e, h1, h2, h3⟩, hc⟩
  refine ⟨ds, ⟨ao, cap, e, h1, h2, fun j hj => ?_⟩, hc⟩
  obtain ⟨bb, off, e2, hcell⟩ := h3 j hj
  exact ⟨bb, off, e2, (World.cell?_of_block (h.same bb (h.no.off (a := ⟨bb, off + j, none⟩) hcell))).trans hcell⟩
theorem Cel.kr {W W' : World} (h : Cel W W') : KR W W' := by
  rintro v n ⟨ds, ⟨ao, cap, e, h1, h2, h3⟩, hc⟩
  refine ⟨ds, ⟨ao, cap, e, h1, h2, fun j hj => ?_⟩, hc⟩
  obtain ⟨bb, off, e2, hcell⟩ := h3 j hj
  exact ⟨bb, off, e2, h.cell hcell⟩
/-- A number's digits reach into no row's room. -/
theorem keptZ_kr {n₀ : Nat} {w w' : World} {v : Value} {M : List Pt} (hown : OwnQ n₀ w v M) (h : KeptZ w w' zPart v.ownBlock (M.length * zPart.cells.size)) : KR w w' := by
  rintro dv n ⟨ds, ⟨ao, cap, e, h1, h2, h3⟩, hc⟩
  refine ⟨ds, ⟨ao, cap, e, h1, h2, fun j hj => ?_⟩, hc⟩
  obtain ⟨bb, off, e2, hcell⟩ := h3 j hj
  refine ⟨bb, off, e2, h _ _ hcell ?_⟩
  by_cases hrow : v.ownBlock = some bb
  · refine .inr (.inr ?_)
    rcases Nat.lt_or_ge (off + j) (M.length * zPart.cells.size) with hl | hl
    · exact hl
    · exfalso
      have h0 : ds ≠ [] := by rintro rfl; simp at hj
      have hlast := last_tl h0 hc.1.2
      obtain ⟨b2, off2, e3, hcell2⟩ := h3 (ds.length - 1) (by omega)
      rw [e2] at e3
      cases e3
      have hz := hown.2 bb (off + (ds.length - 1)) _ hrow (by omega) hcell2
      simp [zPart, Value.cells] at hz
      omega
  · exact .inr (.inl (fun e => hrow e))
/-- Appending parts to such a row. -/
theorem run_appQ (w : World) (n₀ : Nat) (ty : TypeId) (v : Value) (M : List Pt) (hown : OwnQ n₀ w v M) (xv : Value) (N : List Pt) (hN : RowP w xv N) (hone : ∀ m ∈ N, m.2.2.1.oneCell' = true) (hl : M.length + N.length ≤ 1048576) (hbase : n₀ ≤ w.heap.size) :
    ∃ v' w', (Builtin.append_ #[33, 33] ty #[v, xv]).run Tryz.prog w = .ok v' w' ∧ OwnQ n₀ w' v' (M ++ N) ∧ w.grownBy w' v.ownBlock ∧ (v'.ownBlock = v.ownBlock ∨ v'.ownBlock = some w.heap.size) ∧ KR w w' := by
  obtain ⟨i0, hi, hz0, hz1, hz2⟩ := info_parts infoRPart
  obtain ⟨ao, cap, rfl, h1, h2, h3⟩ := hN
  cases ao with
  | none =>
    have hd0 : N = [] := by
      cases N with
      | nil => rfl
      | cons y r => obtain ⟨b, off, e, _⟩ := h3 0 y rfl; cases e
    subst hd0
    refine ⟨v, w, ?_, by rw [List.append_nil]; exact hown, ⟨rfl, rfl, rfl, Nat.le_refl _, fun _ _ _ => rfl⟩, .inl rfl, KR.refl _⟩
    rcases hown.1.2 with ⟨rfl, h0⟩ | ⟨g, cp, cur, rfl, _, _, hnc, _⟩
    · simp [Builtin.append_, run_underlying Tryz.underlying33, sizeOf, typeInfo, hi, Builtin.lenOf, Builtin.firstCells]
    · simp [Builtin.append_, run_underlying Tryz.underlying33, sizeOf, typeInfo, hi, Builtin.lenOf, Builtin.firstCells, hnc, storeCells]
  | some ad =>
    by_cases hN0 : N = []
    · subst hN0
      obtain ⟨v', w', hr, ho, hg, ha, hk⟩ := run_appZ (P := Tryz.prog) w n₀ 33 ty 79 i0 zPart 40 Tryz.underlying33 hi hz0 hz1 hz2 (by decide) v M.length (pcells M) hown ad 0 cap [] rfl (fun j u h => by simp at h) (fun u h => by cases h) (by unfold maxLen; simp at hl; omega) (by simp at hl; omega) hbase
      exact ⟨v', w', hr, by rw [List.append_nil]; unfold OwnQ; simpa using ho, hg, ha, keptZ_kr hown hk⟩
    · have had : ad.spot = none := by
        obtain ⟨y, r, rfl⟩ : ∃ y r, N = y :: r := by cases N with | nil => exact absurd rfl hN0 | cons y r => exact ⟨y, r, rfl⟩
        obtain ⟨b, off, e, _⟩ := h3 0 y rfl
        cases e
        rfl
      have hq1 : ∀ (j : Nat) (u : Value), (pcells N)[j]? = some u → w.cell? (ad.add j) = some u := by
        intro j u hj
        have hjl : j < N.length * 3 := by rw [← pcells_length]; exact (List.getElem?_eq_some_iff.1 hj).1
        have hq : j / 3 < N.length := by omega
        obtain ⟨b, off, e, hc⟩ := h3 (j / 3) N[j / 3] (List.getElem?_eq_getElem hq)
        cases e
        have hget := pcells_get N (j / 3) N[j / 3] (List.getElem?_eq_getElem hq) (j % 3) (Nat.mod_lt _ (by decide))
        rw [show j / 3 * 3 + j % 3 = j by omega, hj] at hget
        rw [addr_add]
        have h3' : j % 3 = 0 ∨ j % 3 = 1 ∨ j % 3 = 2 := by omega
        rcases h3' with e | e | e
        · rw [e] at hget
          rw [show off + j = off + j / 3 * 3 by omega, hc.1, hget]; rfl
        · rw [e] at hget
          rw [show off + j = off + j / 3 * 3 + 1 by omega, hc.2.1, hget]; rfl
        · rw [e] at hget
          rw [show off + j = off + j / 3 * 3 + 2 by omega, hc.2.2, hget]; rfl
      have hq2 : ∀ u ∈ pcells N, u.oneCell' = true := by
        intro u hu
        obtain ⟨m, hm, hu2⟩ := List.mem_flatMap.1 hu
        simp only [ptCells, List.mem_cons, List.mem_nil_iff, or_false] at hu2
        rcases hu2 with rfl | rfl | rfl
        · rfl
        · rfl
        · exact hone m hm
      obtain ⟨v', w', hr, ho, hg, ha, hk⟩ := run_appZ (P := Tryz.prog) w n₀ 33 ty 79 i0 zPart 40 Tryz.underlying33 hi hz0 hz1 hz2 (by decide) v M.length (pcells M) hown ad N.length cap (pcells N) (pcells_length N) hq1 hq2 (by unfold maxLen; omega) (by omega) hbase
      exact ⟨v', w', hr, by unfold OwnQ; rw [List.length_append, pcells_append]; exact ho, hg, ha, keptZ_kr hown hk⟩

def GoodN (W : World) (M : List Pt) : Prop := ∀ m ∈ M, Rng m.1 ∧ NRes W (.agg #[.bool m.2.1, m.2.2.1]) m.2.2.2
def BndT (K : Nat) (l : Ps) : Prop := ∀ p ∈ l, p.2.natAbs < 10 ^ K
theorem GoodN.kr {W W' : World} {M : List Pt} (h : GoodN W M) (hk : KR W W') : GoodN W' M := fun m hm => ⟨(h m hm).1, (h m hm).2.kr hk⟩
theorem GoodN.below {W W' : World} {M : List Pt} (h : GoodN W M) (hb : Below W.heap.size W W') : GoodN W' M := h.kr (KR.of hb)
theorem GoodN.sl {W : World} {M : List Pt} (h : GoodN W M) : Sl M := fun m hm => by
  obtain ⟨dv, e, hr⟩ := (h m hm).2
  simp only [Value.agg.injEq, Array.mk.injEq, List.cons.injEq, and_true] at e
  obtain ⟨a, L, c, e2, _⟩ := hr.shape
  exact ⟨a, L, c, by rw [e.2, e2]⟩
/-- A sum of the reference's. -/
def RTerm (W : World) (v : Value) (c : Int) (M : List Pt) : Prop :=
  ∃ cn ca cL cc pa pl pc, v = .agg #[.bool cn, .slice ca cL cc, .slice pa pl pc] ∧ NRes W (.agg #[.bool cn, .slice ca cL cc]) c ∧ RowP W (.slice pa pl pc) M ∧ GoodN W M
theorem RTerm.below {W W' : World} {v : Value} {c : Int} {M : List Pt} (h : RTerm W v c M) (hb : Below W.heap.size W W') : RTerm W' v c M := by
  obtain ⟨cn, ca, cL, cc, pa, pl, pc, e, h1, h3, h4⟩ := h
  exact ⟨cn, ca, cL, cc, pa, pl, pc, e, h1.below hb, h3.below hb, h4.below hb⟩
theorem RTerm.but {b : Nat} {W W' : World} {v : Value} {c : Int} {M : List Pt} (h : RTerm W v c M) (hb : ButN b W W') : RTerm W' v c M := by
  obtain ⟨cn, ca, cL, cc, pa, pl, pc, e, h1, h3, h4⟩ := h
  exact ⟨cn, ca, cL, cc, pa, pl, pc, e, h1.kr hb.kr, hb.row h3, h4.kr hb.kr⟩
theorem RTerm.form {W : World} {v : Value} {c : Int} {M : List Pt} (h : RTerm W v c M) : ∃ cn ca cL cc pa pl pc, v = .agg #[.bool cn, .slice ca cL cc, .slice pa pl pc] := by
  obtain ⟨cn, ca, cL, cc, pa, pl, pc, e, _⟩ := h
  exact ⟨cn, ca, cL, cc, pa, pl, pc, e⟩
theorem results_rterm {fn : Func} {k : Tmp} (h : fn.results = #[.cell k 35]) {tmps : Array Value} {W : World} {b : Nat} {x y z : Value} {t : TypeId} (hp : tmps.getD k undef = .pointer (some ⟨b, 0, none⟩)) (T : Thr W b x y z t) :
    (results fn tmps).run Tryz.prog W = .ok (.agg #[x, y, z]) W := by
  have c0 := T.c0
  have c1 := T.c1
  have c2 := T.c2
  have hp' : tmps[k]?.getD undef = .pointer (some ⟨b, 0, none⟩) := by simpa using hp
  simp [results, h, hp', go_sem, c0, c1, c2]

end Go.Proofs.YtbjolmgobeagoaaGreatDoor
