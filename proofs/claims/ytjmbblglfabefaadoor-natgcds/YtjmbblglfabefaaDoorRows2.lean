/- Memory that a call makes for limbs: one block, all of it known; what a store, a new block and other calls do to it; a law for making such a block. -/
import Derived.Test.YtjmbblglfabefaaDoorMem
namespace Go.Proofs.YtjmbblglfabefaaDoor
set_option linter.unusedVariables false
set_option linter.unusedSimpArgs false
open Go Go.RowKit Go.Shelf

/-- Block g holds the limbs zs, and nothing else. -/
def Row (W : World) (g : Nat) (zs : List Nat) : Prop := W.heap[g]? = some (.cells (zs.map (fun z : Nat => Value.int .u32 (z : Int))).toArray 46 (0, 0))

theorem Row.lt {W : World} {g : Nat} {zs : List Nat} (h : Row W g zs) : g < W.heap.size := (Array.getElem?_eq_some_iff.1 h).1

theorem Row.cell {W : World} {g : Nat} {zs : List Nat} (h : Row W g zs) {j : Nat} (hj : j < zs.length) : W.cell? ⟨g, j, none⟩ = some (.int .u32 ((nth zs j : Nat) : Int)) := by
  rw [cell_of_row W g j _ _ _ h, nth_eq hj]
  simp [hj]

theorem Row.frozen {W : World} {g : Nat} {zs : List Nat} (h : Row W g zs) (j : Nat) : W.frozen? ⟨g, j, none⟩ = false := frozen_of_row W g j _ _ h

theorem Row.set {W : World} {g : Nat} {zs : List Nat} (h : Row W g zs) (j v : Nat) : Row (W.setCell ⟨g, j, none⟩ (.int .u32 (v : Int))) g (zs.set j v) := by
  unfold Row
  rw [heap_setCell_same W g j _ _ _ h]
  simp [List.map_set]

theorem Row.other {W : World} {g : Nat} {zs : List Nat} (h : Row W g zs) {a : Addr} (ha : g ≠ a.block) (v : Value) : Row (W.setCell a v) g zs := (heap_setCell_other W a g v ha).trans h

theorem Row.below {W W' : World} {B g : Nat} {zs : List Nat} (h : Row W g zs) (hb : Below B W W') (hg : g < B) : Row W' g zs := (hb.block g hg).trans h

theorem Row.keep {W W' : World} {g : Nat} {zs : List Nat} (h : Row W g zs) (hb : Below W.heap.size W W') : Row W' g zs := h.below hb h.lt

theorem Row.alloc {W : World} {g : Nat} {zs : List Nat} (h : Row W g zs) (o : Obj) : Row (W.alloc o) g zs := (Below.heap_alloc _ _ _ h.lt).trans h

/-- A piece of such a block is a slice of limbs. -/
theorem Row.limbs {W : World} {g : Nat} {zs : List Nat} (h : Row W g zs) (hs : Small R zs) (off n cap : Nat) (h1 : off + n ≤ zs.length) (h2 : n ≤ cap) (h3 : cap ≤ 70368744177664) :
    Limbs W (.slice (some ⟨g, off, none⟩) n cap) ((zs.drop off).take n) := by
  have hl : ((zs.drop off).take n).length = n := by simp; omega
  refine ⟨some ⟨g, off, none⟩, cap, by rw [hl], by omega, h3, (hs.drop _).take _, fun j hj => ⟨g, off, rfl, ?_⟩⟩
  rw [hl] at hj
  rw [h.cell (by omega), nth_take hj, nth_drop]

theorem Row.whole {W : World} {g : Nat} {zs : List Nat} (h : Row W g zs) (hs : Small R zs) (h3 : zs.length ≤ 70368744177664) : Limbs W (.slice (some ⟨g, 0, none⟩) zs.length zs.length) zs := by
  have := h.limbs hs 0 zs.length zs.length (by omega) (Nat.le_refl _) h3
  simpa using this

/-- A slice of limbs in memory that was made since the heap had n₀ blocks: nil, or the front of a block of its own. -/
def Made (n₀ : Nat) (W : World) (rv : Value) (zs : List Nat) : Prop :=
  Small R zs ∧ ((rv = .slice none 0 0 ∧ zs = []) ∨ ∃ g full cap, rv = .slice (some ⟨g, 0, none⟩) zs.length cap ∧ n₀ ≤ g ∧ zs.length ≤ cap ∧ cap ≤ full.length ∧ full.length ≤ 70368744177664 ∧ Small R full ∧ Row W g full ∧ full.take zs.length = zs)

theorem Made.limbs {n₀ : Nat} {W : World} {rv : Value} {zs : List Nat} (h : Made n₀ W rv zs) : Limbs W rv zs := by
  obtain ⟨hs, ⟨rfl, rfl⟩ | ⟨g, full, cap, rfl, h1, h2, h3, h4, h5, h6, h7⟩⟩ := h
  · exact Limbs.nil W
  · have := h6.limbs h5 0 zs.length cap (by omega) h2 (by omega)
    rw [List.drop_zero, h7] at this
    exact this

theorem Made.below {n₀ : Nat} {W W' : World} {rv : Value} {zs : List Nat} (h : Made n₀ W rv zs) (hb : Below W.heap.size W W') : Made n₀ W' rv zs := by
  obtain ⟨hs, h | ⟨g, full, cap, rfl, h1, h2, h3, h4, h5, h6, h7⟩⟩ := h
  · exact ⟨hs, .inl h⟩
  · exact ⟨hs, .inr ⟨g, full, cap, rfl, h1, h2, h3, h4, h5, h6.keep hb, h7⟩⟩

theorem Made.mono {n₀ n₁ : Nat} {W : World} {rv : Value} {zs : List Nat} (h : Made n₀ W rv zs) (hn : n₁ ≤ n₀) : Made n₁ W rv zs := by
  obtain ⟨hs, h | ⟨g, full, cap, rfl, h1, h⟩⟩ := h
  · exact ⟨hs, .inl h⟩
  · exact ⟨hs, .inr ⟨g, full, cap, rfl, by omega, h⟩⟩

theorem Made.nil (n₀ : Nat) (W : World) : Made n₀ W (.slice none 0 0) [] := ⟨Small.nil _, .inl ⟨rfl, rfl⟩⟩

theorem Made.whole {n₀ g : Nat} {W : World} {zs : List Nat} (h : Row W g zs) (hs : Small R zs) (hg : n₀ ≤ g) (h3 : zs.length ≤ 70368744177664) : Made n₀ W (.slice (some ⟨g, 0, none⟩) zs.length zs.length) zs :=
  ⟨hs, .inr ⟨g, zs, zs.length, rfl, hg, Nat.le_refl _, Nat.le_refl _, h3, hs, h, by simp⟩⟩

/-- What trim makes of a made block. -/
theorem Made.trimmed {n₀ g : Nat} {W : World} {zs : List Nat} (h : Row W g zs) (hs : Small R zs) (hg : n₀ ≤ g) (h3 : zs.length ≤ 70368744177664) : Made n₀ W (trimmed (some ⟨g, 0, none⟩) zs.length zs) (trm zs) := by
  unfold Proofs.YtjmbblglfabefaaDoor.trimmed
  by_cases hz : tl zs = 0
  · rw [if_pos hz, trm_nil_of hz]; exact Made.nil _ _
  · rw [if_neg hz]
    have := tl_le zs
    exact ⟨hs.trm, .inr ⟨g, zs, zs.length, by rw [trm_length], hg, by rw [trm_length]; omega, Nat.le_refl _, h3, hs, h, by rw [trm_length]; rfl⟩⟩

theorem small_replicate (n : Nat) : Small R (List.replicate n 0) := fun x hx => by rw [(List.mem_replicate.1 hx).2]; decide

theorem infoU32 : (Tryd.prog.info? 46).map (fun i => (i.zero, i.size, i.bytes)) = some (some (.int .u32 0), 1, 4) := by kernel_rfl

theorem run_mk (n : Nat) (hn : n ≤ 70368744177664) (w : World) : ∃ w', (Instr.makeSlice 22 (.int .i64 (n : Int)) (.int .i64 (n : Int))).run Tryd.prog w = .ok (.slice (some ⟨w.heap.size, 0, none⟩) n n) w' ∧ Row w' w.heap.size (List.replicate n 0) ∧ Below w.heap.size w w' ∧ w'.heap.size = w.heap.size + 1 := by
  obtain ⟨i0, hi, hz0, hz1, hz2⟩ := info_parts infoU32
  have hr := run_make (P := Tryd.prog) w 22 46 i0 _ Tryd.underlying22 hi hz0 .i64 .i64 n n (by omega) (Int.le_refl _) (by rw [hz2]; omega) (by omega)
  rw [Int.toNat_natCast, hz1] at hr
  refine ⟨_, hr, ?_, (Below.refl _ w).alloc (Nat.le_refl _) _, by simp⟩
  unfold Row
  rw [World.alloc_heap_new]
  congr 1
  have : madeCells (Value.int .u32 0).cells (n * 1) = ((List.replicate n 0).map (fun z : Nat => Value.int .u32 (z : Int))).toArray := by
    apply Array.ext'
    show (madeCells #[Value.int .u32 0] (n * 1)).toList = _
    rw [toList_madeCells_one]
    simp
  rw [this]

theorem R_pos : 0 < R := by decide

theorem Limbs.cells {W : World} {ao : Option Addr} {n cap : Nat} {zs : List Nat} (h : Limbs W (.slice ao n cap) zs) : ∀ j, j < zs.length → ∃ b off, ao = some ⟨b, off, none⟩ ∧ W.cell? ⟨b, off + j, none⟩ = some (.int .u32 ((nth zs j : Nat) : Int)) := by
  obtain ⟨ao', cap', e, _, _, _, h⟩ := h
  cases e
  exact h

/-- A call's answer: a list of its own, in its one form, worth n. -/
def Answer (w w' : World) (rv : Value) (n : Nat) : Prop := ∃ zs, Made w.heap.size w' rv zs ∧ Canon R zs ∧ val R zs = n

theorem small_snoc {ss : List Nat} (h : Small R ss) {v : Nat} (hv : v < R) : Small R (ss ++ [v]) := h.append (fun x hx => by rw [List.mem_singleton.1 hx]; exact hv)

theorem Limbs.small {W : World} {sv : Value} {zs : List Nat} (h : Limbs W sv zs) : Small R zs := by
  obtain ⟨ao, cap, e, _, _, h, _⟩ := h; exact h

theorem Limbs.len {W : World} {sv : Value} {zs : List Nat} (h : Limbs W sv zs) : ∃ ao cap, sv = .slice ao zs.length cap := by
  obtain ⟨ao, cap, e, _⟩ := h; exact ⟨ao, cap, e⟩

theorem trim_made (w0 w : World) (g : Nat) (zs : List Nat) (n v : Nat) (hrow : Row w g zs) (hs : Small R zs) (hl : zs.length = n) (hg : w0.heap.size ≤ g) (hn : n ≤ 70368744177664) (hv : val R zs = v) :
    Calls Tryd.prog 33 #[.slice (some ⟨g, 0, none⟩) n n] w fun e w' => ∃ bo m dap, e = .returned (.slice bo m dap) ∧ Answer w0 w' (.slice bo m dap) v ∧ Below w.heap.size w w' := by
  subst hl
  have hlim := hrow.whole hs hn
  refine (trim_calls _ _ _ zs hlim).mono ?_
  rintro e w2 ⟨rfl, hb2⟩
  have hm := Made.trimmed (n₀ := w0.heap.size) (hrow.keep hb2) hs hg hn
  obtain ⟨bo, dap, hf⟩ := trimmed_form (some ⟨g, 0, none⟩) zs.length zs
  rw [hf] at hm ⊢
  exact ⟨_, _, _, rfl, ⟨_, hm, canon_trm hs, by rw [val_trm, hv]⟩, hb2⟩

theorem trim_made_from (w0 Wd w : World) (hW : Below Wd.heap.size Wd w) (g : Nat) (zs : List Nat) (n v : Nat) (hrow : Row Wd g zs) (hs : Small R zs) (hl : zs.length = n) (hg : w0.heap.size ≤ g) (hn : n ≤ 70368744177664) (hv : val R zs = v) :
    Calls Tryd.prog 33 #[.slice (some ⟨g, 0, none⟩) n n] w fun e w' => ∃ bo m dap, e = .returned (.slice bo m dap) ∧ Answer w0 w' (.slice bo m dap) v ∧ Below Wd.heap.size Wd w' := by
  refine (trim_made w0 w g zs n v (hrow.keep hW) hs hl hg hn hv).mono ?_
  rintro e w' ⟨bo, m, dap, h1, h2, h3⟩
  exact ⟨bo, m, dap, h1, h2, hW.trans (h3.mono hW.size)⟩

theorem Answer.below {w0 W W' : World} {rv : Value} {n : Nat} (h : Answer w0 W rv n) (hb : Below W.heap.size W W') : Answer w0 W' rv n := by
  obtain ⟨zs, hm, hc, hv⟩ := h
  exact ⟨zs, hm.below hb, hc, hv⟩

/-- Making a block of n noughts. -/
theorem wpList_mk (w : World) {ops : Array Oper} {rest : List Oper} {o : Oper} {a : Act} {Q : Exit → Act → World → Prop}
    (hg : o.guard = none) (l : Operand) (hop : o.op = Op.makeSlice 22 l l) (L : Int) (n : Nat) (hl : a.eval l = .int .i64 L) (hL : L = (n : Int)) (hn : n ≤ 70368744177664)
    (hK : ∀ w', Row w' w.heap.size (List.replicate n 0) → Below w.heap.size w w' → w'.heap.size = w.heap.size + 1 → wpList Tryd.prog ops Q rest (a.put o.dst (.slice (some ⟨w.heap.size, 0, none⟩) n n)) w') :
    wpList Tryd.prog ops Q (o :: rest) a w := by
  refine wpList_plain hg fun K hK' => ?_
  obtain ⟨w', hrun, r1, r2, r3⟩ := run_mk n hn w
  subst hL
  unfold Oper.wp
  simp [execOp, hop, hl, hrun, Result.andThen]
  exact hK' _ _ (hK w' r1 r2 r3)

theorem wpListIn_mk {F : Fence} {m : Nat} (w : World) {ops : Array Oper} {rest : List Oper} {o : Oper} {a : Act} {Q : Exit → Act → World → Prop}
    (hg : o.guard = none) (l : Operand) (hop : o.op = Op.makeSlice 22 l l) (L : Int) (n : Nat) (hl : a.eval l = .int .i64 L) (hL : L = (n : Int)) (hn : n ≤ 70368744177664)
    (hK : ∀ w', Row w' w.heap.size (List.replicate n 0) → Below w.heap.size w w' → w'.heap.size = w.heap.size + 1 → wpListIn F m Tryd.prog ops Q rest (a.put o.dst (.slice (some ⟨w.heap.size, 0, none⟩) n n)) w') :
    wpListIn F m Tryd.prog ops Q (o :: rest) a w := by
  refine wpListIn_plain hg fun K hK' => ?_
  obtain ⟨w', hrun, r1, r2, r3⟩ := run_mk n hn w
  subst hL
  unfold Oper.wpIn
  refine ⟨?_, ?_⟩
  · simp [Oper.about, hop]
  · rw [Oper.semAt_plain F _ _ (by rw [hop]; intro c hc'; cases hc')]
    simp [execOp, hop, hl, hrun, Result.andThen]
    exact hK' _ _ (hK w' r1 r2 r3)

end Go.Proofs.YtjmbblglfabefaaDoor
