/- A law for a loop over an iterator that hands over N values, reads, ahead of each round, what the caller's invariant says of memory, and makes memory of its own. -/
import Derived.Test.YtbjolmgobeagoaaGreatDoorBRows
import Derived.Test.YtbjolmgobeagoaaGreatDoorLnTerm
namespace Go.Proofs.YtbjolmgobeagoaaGreatDoor
set_option linter.unusedVariables false
set_option linter.unusedSimpArgs false
open Go Go.RowKit Go.Shelf

/-- What an iterator owes that itself makes memory: of whatever J that says enough of memory ahead of each round, and still says it when there is more of it. -/
def HandsB (P : Program) (gf : Nat) (lb : Array Value) (N : Nat) (args : Nat → Array Value) (Know : Nat → World → Prop) : Prop :=
  ∀ (l : Nat) (J Jx : Nat → World → Prop) (W : World), (∀ k W, J k W → Know k W) → (∀ k W W', J k W → Below W.heap.size W W' → J k W') →
    (∀ k W1, k < N → J k W1 → YieldAt Fence.wide 1 P l (args k) W1 fun e W' => (e = .returned (.bool true) ∧ J (k + 1) W') ∨ (e = .returned (.bool false) ∧ Jx k W')) →
    J 0 W → CallsIn Fence.wide 2 P gf (#[.func (.yield l) #[] #[]] ++ lb) W fun e W' => (∃ v, e = .returned v) ∧ (J N W' ∨ ∃ k, k < N ∧ Jx k W')

theorem range_knownB {P : Program} {g : Operand} {ps : Array Tmp} {assign body : Code} {Q : Exit → Act → World → Prop} {a : Act} {w : World}
    {gf : Nat} {lb : Array Value} (hg : a.eval g = .func (.func gf) #[] lb) (eg : ∀ args w, (callFunc gf args).run P w = .ok (.enter gf args) w)
    {N : Nat} {args : Nat → Array Value} {Know : Nat → World → Prop} (hseq : HandsB P gf lb N args Know) (hps : ∀ k, (args k).size = ps.size)
    (I : Nat → World → Prop) (Ix : Code → Nat → World → Prop) (hI : OwnFrom w.heap.size I) (hIx : ∀ c, OwnFrom w.heap.size (Ix c)) (hKn : ∀ k W, I k W → Know k W) (hIB : ∀ k W W', I k W → Below W.heap.size W W' → I k W') (h0 : I 0 w) (a₁ : Nat → Act)
    (hassign : ∀ (l k : Nat) (W : World) (K : Act → World → Prop), k < N → K (a₁ k) W →
      assign.wpIn (Fence.wide.inRound l) 1 P (Exit.then K (fun _ _ _ => False)) { tmps := (ps.zip (args k)).foldl (fun t (p, v) => t.setIfInBounds p v) a.tmps, defers := [] } W)
    (hbody : ∀ (l k : Nat) (W : World), k < N → I k W → body.wpIn (Fence.wide.inRound l) 1 P (roundPost w.heap.size I Ix k W) (a₁ k) W)
    (hdone : ∀ (D : Nat) (W : World), w.heap.size ≤ D → I N W → W.heap[D]? = some (.deferred (some [])) → Q .normal { a with defers := { target := .collected D, args := #[] } :: a.defers } W)
    (hstop : ∀ (D : Nat) (c : Code) (k : Nat) (W : World), w.heap.size ≤ D → k < N → Ix c k W → W.heap[D]? = some (.deferred (some [])) → c.wpIn Fence.wide 3 P Q { a with defers := { target := .collected D, args := #[] } :: a.defers } W) :
    (Code.rangeFunc g ps assign body).wpIn Fence.wide 3 P Q a w := by
  refine wpIn_rangeFunc ?_
  intro fn hfn
  show ∃ x, _
  obtain ⟨rec, hrec⟩ : ∃ rec : LoopState → Option Code → Loop, rec = fun st pe => { state := st, pending := pe, fn, tmps := a.tmps, params := ps, assign, body, defers := w.heap.size } := ⟨_, rfl⟩
  obtain ⟨W1, hW1⟩ : ∃ W1, (w.alloc (.deferred (some []))).alloc (.loop (rec .ready none)) = W1 := ⟨_, rfl⟩
  have hL1 : W1.heap[w.heap.size + 1]? = some (.loop (rec .ready none)) := by
    rw [← hW1]
    simpa using World.alloc_heap_new (w.alloc (.deferred (some []))) (.loop (rec .ready none))
  have hK1 : W1.heap[w.heap.size]? = some (.deferred (some [])) := by
    rw [← hW1]
    exact (Below.heap_alloc _ _ _ (by simp)).trans (World.alloc_heap_new w _)
  have hI1 : I 0 W1 := by rw [← hW1]; exact hI.alloc _ (hI.alloc _ h0)
  refine ⟨w.heap.size + 1, [{ target := .collected w.heap.size, args := #[] }], W1, { target := .fn (.func gf) lb, args := #[.func (.yield (w.heap.size + 1)) #[] #[]] }, W1, gf,
    #[.func (.yield (w.heap.size + 1)) #[] #[]] ++ lb, W1, ?_, ?_, ?_, ?_, fun _ => by omega, ?_⟩
  · rw [← hW1, hrec]
    exact run_enterLoop_outer _ _ _ _ _
  · simp only [resolve, hg]
    simp [go_sem]
  · intro f' _
    exact trivial
  · simp [invoke, go_sem, eg]
  · -- The two blocks of the loop's book-keeping, beside the caller's invariant.
    refine (hseq (w.heap.size + 1)
      (fun k W => I k W ∧ W.heap[w.heap.size + 1]? = some (.loop (rec .ready none)) ∧ W.heap[w.heap.size]? = some (.deferred (some [])))
      (fun k W => ∃ c, Ix c k W ∧ W.heap[w.heap.size + 1]? = some (.loop (rec .done (some c))) ∧ W.heap[w.heap.size]? = some (.deferred (some [])))
      W1 (fun k W h => hKn k W h.1) (fun k W W' h hb => ⟨hIB k W W' h.1 hb, (hb.block _ (Array.getElem?_eq_some_iff.1 h.2.1).1).trans h.2.1, (hb.block _ (Array.getElem?_eq_some_iff.1 h.2.2).1).trans h.2.2⟩) ?_ ⟨hI1, hL1, hK1⟩).mono ?_
    · rintro k W hk ⟨hi, hl, hd⟩
      have hlt : w.heap.size + 1 < W.heap.size := (Array.getElem?_eq_some_iff.1 hl).1
      have hy := run_yield (P := P) (args := args k) hl (by rw [hrec]; exact hps k)
      rw [hrec] at hy
      refine ⟨fn, _, assign, body, hy, roundIn_of_wpIn hfn (hassign _ k W _ hk ⟨_, run_beginRound hl (by rw [hrec]), ?_⟩)⟩
      have hl2 : (W.putObj (w.heap.size + 1) (.loop { rec .ready none with state := .busy })).heap[w.heap.size + 1]? = some (.loop { rec .ready none with state := .busy }) := World.putObj_heap_same hlt
      have hd2 : (W.putObj (w.heap.size + 1) (.loop { rec .ready none with state := .busy })).heap[w.heap.size]? = some (.deferred (some [])) := (World.putObj_heap_other (by omega)).trans hd
      refine wpIn_mono (hbody _ k _ hk (hI.putObj _ hi (by omega) hl rfl)) ?_
      have fin : ∀ (jump : Option Code) (W3 : World), KeepsFrom w.heap.size (W.putObj (w.heap.size + 1) (.loop { rec .ready none with state := .busy })) W3 →
          (Instr.endRound (w.heap.size + 1) jump).run P W3 = .ok (.bool jump.isNone) (W3.putObj (w.heap.size + 1) (.loop (rec (if jump.isNone then .ready else .done) jump))) ∧
          W3.heap[w.heap.size + 1]? = some (.loop { rec .ready none with state := .busy }) ∧
          (W3.putObj (w.heap.size + 1) (.loop (rec (if jump.isNone then .ready else .done) jump))).heap[w.heap.size + 1]? = some (.loop (rec (if jump.isNone then .ready else .done) jump)) ∧
          (W3.putObj (w.heap.size + 1) (.loop (rec (if jump.isNone then .ready else .done) jump))).heap[w.heap.size]? = some (.deferred (some [])) := fun jump W3 hk3 => by
        have hl3 := hk3.same _ _ (by omega) hl2 rfl
        have := run_endRound (P := P) jump hl3
        rw [hrec] at this ⊢
        exact ⟨this, by rw [hrec] at hl3; exact hl3, World.putObj_heap_same (Array.getElem?_eq_some_iff.1 hl3).1, (World.putObj_heap_other (by omega)).trans (hk3.same _ _ (Nat.le_refl _) hd2 rfl)⟩
      rintro e a3 W3 hp
      cases e with
      | normal =>
        obtain ⟨hr, hl3, hl4, hk4⟩ := fin none W3 hp.1
        exact ⟨_, _, hr, .inl ⟨rfl, hI.putObj _ hp.2 (by omega) hl3 rfl, hl4, hk4⟩⟩
      | ret =>
        obtain ⟨hr, hl3, hl4, hk4⟩ := fin (some .ret) W3 hp.1
        exact ⟨_, _, hr, .inr ⟨rfl, .ret, (hIx _).putObj _ hp.2 (by omega) hl3 rfl, hl4, hk4⟩⟩
      | exit id =>
        obtain ⟨hr, hl3, hl4, hk4⟩ := fin (some (.exit id)) W3 hp.1
        exact ⟨_, _, hr, .inr ⟨rfl, .exit id, (hIx _).putObj _ hp.2 (by omega) hl3 rfl, hl4, hk4⟩⟩
      | goto t =>
        obtain ⟨hr, hl3, hl4, hk4⟩ := fin (some (.goto t)) W3 hp.1
        exact ⟨_, _, hr, .inr ⟨rfl, .goto t, (hIx _).putObj _ hp.2 (by omega) hl3 rfl, hl4, hk4⟩⟩
      | panic ch => exact hp.elim
      | outgrown => exact hp.elim
    · rintro e W2 ⟨⟨v, rfl⟩, (⟨hi, hl, hd⟩ | ⟨k, hk, c, hi, hl, hd⟩)⟩
      · exact ⟨none, _, by have := run_endLoop (P := P) hl (by rw [hrec]; simp); rw [hrec] at this; exact this, hdone _ _ (Nat.le_refl _) (hI.putObj _ hi (by omega) hl rfl) ((World.putObj_heap_other (by omega)).trans hd)⟩
      · exact ⟨some c, _, by have := run_endLoop (P := P) hl (by rw [hrec]; simp); rw [hrec] at this; exact this, hstop _ c k _ (Nat.le_refl _) hk ((hIx c).putObj _ hi (by omega) hl rfl) ((World.putObj_heap_other (by omega)).trans hd)⟩

/-- The same, where the variables of the round are laid into memory of their own ahead of it. -/
theorem range_knownA {P : Program} {g : Operand} {ps : Array Tmp} {assign body : Code} {Q : Exit → Act → World → Prop} {a : Act} {w : World}
    {gf : Nat} {lb : Array Value} (hg : a.eval g = .func (.func gf) #[] lb) (eg : ∀ args w, (callFunc gf args).run P w = .ok (.enter gf args) w)
    {N : Nat} {args : Nat → Array Value} {Know : Nat → World → Prop} (hseq : HandsB P gf lb N args Know) (hps : ∀ k, (args k).size = ps.size)
    (I : Nat → World → Prop) (Ix : Code → Nat → World → Prop) (hI : OwnFrom w.heap.size I) (hIx : ∀ c, OwnFrom w.heap.size (Ix c)) (hKn : ∀ k W, I k W → Know k W) (hIB : ∀ k W W', I k W → Below W.heap.size W W' → I k W') (h0 : I 0 w) (I₁ : Nat × Act → World → Prop) (hI₁ : OwnFrom w.heap.size I₁)
    (hassign : ∀ (l k : Nat) (W : World) (K : Act → World → Prop), k < N → I k W → (∀ a1 W2, Below W.heap.size W W2 → I₁ (k, a1) W2 → K a1 W2) →
      assign.wpIn (Fence.wide.inRound l) 1 P (Exit.then K (fun _ _ _ => False)) { tmps := (ps.zip (args k)).foldl (fun t (p, v) => t.setIfInBounds p v) a.tmps, defers := [] } W)
    (hbody : ∀ (l k : Nat) (a1 : Act) (W : World), k < N → I₁ (k, a1) W → body.wpIn (Fence.wide.inRound l) 1 P (roundPost w.heap.size I Ix k W) a1 W)
    (hdone : ∀ (D : Nat) (W : World), w.heap.size ≤ D → I N W → W.heap[D]? = some (.deferred (some [])) → Q .normal { a with defers := { target := .collected D, args := #[] } :: a.defers } W)
    (hstop : ∀ (D : Nat) (c : Code) (k : Nat) (W : World), w.heap.size ≤ D → k < N → Ix c k W → W.heap[D]? = some (.deferred (some [])) → c.wpIn Fence.wide 3 P Q { a with defers := { target := .collected D, args := #[] } :: a.defers } W) :
    (Code.rangeFunc g ps assign body).wpIn Fence.wide 3 P Q a w := by
  refine wpIn_rangeFunc ?_
  intro fn hfn
  show ∃ x, _
  obtain ⟨rec, hrec⟩ : ∃ rec : LoopState → Option Code → Loop, rec = fun st pe => { state := st, pending := pe, fn, tmps := a.tmps, params := ps, assign, body, defers := w.heap.size } := ⟨_, rfl⟩
  obtain ⟨W1, hW1⟩ : ∃ W1, (w.alloc (.deferred (some []))).alloc (.loop (rec .ready none)) = W1 := ⟨_, rfl⟩
  have hL1 : W1.heap[w.heap.size + 1]? = some (.loop (rec .ready none)) := by
    rw [← hW1]
    simpa using World.alloc_heap_new (w.alloc (.deferred (some []))) (.loop (rec .ready none))
  have hK1 : W1.heap[w.heap.size]? = some (.deferred (some [])) := by
    rw [← hW1]
    exact (Below.heap_alloc _ _ _ (by simp)).trans (World.alloc_heap_new w _)
  have hI1 : I 0 W1 := by rw [← hW1]; exact hI.alloc _ (hI.alloc _ h0)
  refine ⟨w.heap.size + 1, [{ target := .collected w.heap.size, args := #[] }], W1, { target := .fn (.func gf) lb, args := #[.func (.yield (w.heap.size + 1)) #[] #[]] }, W1, gf,
    #[.func (.yield (w.heap.size + 1)) #[] #[]] ++ lb, W1, ?_, ?_, ?_, ?_, fun _ => by omega, ?_⟩
  · rw [← hW1, hrec]
    exact run_enterLoop_outer _ _ _ _ _
  · simp only [resolve, hg]
    simp [go_sem]
  · intro f' _
    exact trivial
  · simp [invoke, go_sem, eg]
  · -- The two blocks of the loop's book-keeping, beside the caller's invariant.
    refine (hseq (w.heap.size + 1)
      (fun k W => I k W ∧ W.heap[w.heap.size + 1]? = some (.loop (rec .ready none)) ∧ W.heap[w.heap.size]? = some (.deferred (some [])))
      (fun k W => ∃ c, Ix c k W ∧ W.heap[w.heap.size + 1]? = some (.loop (rec .done (some c))) ∧ W.heap[w.heap.size]? = some (.deferred (some [])))
      W1 (fun k W h => hKn k W h.1) (fun k W W' h hb => ⟨hIB k W W' h.1 hb, (hb.block _ (Array.getElem?_eq_some_iff.1 h.2.1).1).trans h.2.1, (hb.block _ (Array.getElem?_eq_some_iff.1 h.2.2).1).trans h.2.2⟩) ?_ ⟨hI1, hL1, hK1⟩).mono ?_
    · rintro k W hk ⟨hi, hl, hd⟩
      have hlt : w.heap.size + 1 < W.heap.size := (Array.getElem?_eq_some_iff.1 hl).1
      have hy := run_yield (P := P) (args := args k) hl (by rw [hrec]; exact hps k)
      rw [hrec] at hy
      refine ⟨fn, _, assign, body, hy, roundIn_of_wpIn hfn (hassign _ k W _ hk hi ?_)⟩
      intro a1 W2 hb2 hi1
      replace hd : W2.heap[w.heap.size]? = some (.deferred (some [])) := (hb2.block _ (by omega)).trans hd
      replace hl : W2.heap[w.heap.size + 1]? = some (.loop (rec .ready none)) := (hb2.block _ hlt).trans hl
      replace hlt : w.heap.size + 1 < W2.heap.size := (Array.getElem?_eq_some_iff.1 hl).1
      clear hy hi hb2
      clear W
      refine ⟨_, run_beginRound hl (by rw [hrec]), ?_⟩
      have hl2 : (W2.putObj (w.heap.size + 1) (.loop { rec .ready none with state := .busy })).heap[w.heap.size + 1]? = some (.loop { rec .ready none with state := .busy }) := World.putObj_heap_same hlt
      have hd2 : (W2.putObj (w.heap.size + 1) (.loop { rec .ready none with state := .busy })).heap[w.heap.size]? = some (.deferred (some [])) := (World.putObj_heap_other (by omega)).trans hd
      refine wpIn_mono (hbody _ k a1 _ hk (hI₁.putObj _ hi1 (by omega) hl rfl)) ?_
      have fin : ∀ (jump : Option Code) (W3 : World), KeepsFrom w.heap.size (W2.putObj (w.heap.size + 1) (.loop { rec .ready none with state := .busy })) W3 →
          (Instr.endRound (w.heap.size + 1) jump).run P W3 = .ok (.bool jump.isNone) (W3.putObj (w.heap.size + 1) (.loop (rec (if jump.isNone then .ready else .done) jump))) ∧
          W3.heap[w.heap.size + 1]? = some (.loop { rec .ready none with state := .busy }) ∧
          (W3.putObj (w.heap.size + 1) (.loop (rec (if jump.isNone then .ready else .done) jump))).heap[w.heap.size + 1]? = some (.loop (rec (if jump.isNone then .ready else .done) jump)) ∧
          (W3.putObj (w.heap.size + 1) (.loop (rec (if jump.isNone then .ready else .done) jump))).heap[w.heap.size]? = some (.deferred (some [])) := fun jump W3 hk3 => by
        have hl3 := hk3.same _ _ (by omega) hl2 rfl
        have := run_endRound (P := P) jump hl3
        rw [hrec] at this ⊢
        exact ⟨this, by rw [hrec] at hl3; exact hl3, World.putObj_heap_same (Array.getElem?_eq_some_iff.1 hl3).1, (World.putObj_heap_other (by omega)).trans (hk3.same _ _ (Nat.le_refl _) hd2 rfl)⟩
      rintro e a3 W3 hp
      cases e with
      | normal =>
        obtain ⟨hr, hl3, hl4, hk4⟩ := fin none W3 hp.1
        exact ⟨_, _, hr, .inl ⟨rfl, hI.putObj _ hp.2 (by omega) hl3 rfl, hl4, hk4⟩⟩
      | ret =>
        obtain ⟨hr, hl3, hl4, hk4⟩ := fin (some .ret) W3 hp.1
        exact ⟨_, _, hr, .inr ⟨rfl, .ret, (hIx _).putObj _ hp.2 (by omega) hl3 rfl, hl4, hk4⟩⟩
      | exit id =>
        obtain ⟨hr, hl3, hl4, hk4⟩ := fin (some (.exit id)) W3 hp.1
        exact ⟨_, _, hr, .inr ⟨rfl, .exit id, (hIx _).putObj _ hp.2 (by omega) hl3 rfl, hl4, hk4⟩⟩
      | goto t =>
        obtain ⟨hr, hl3, hl4, hk4⟩ := fin (some (.goto t)) W3 hp.1
        exact ⟨_, _, hr, .inr ⟨rfl, .goto t, (hIx _).putObj _ hp.2 (by omega) hl3 rfl, hl4, hk4⟩⟩
      | panic ch => exact hp.elim
      | outgrown => exact hp.elim
    · rintro e W2 ⟨⟨v, rfl⟩, (⟨hi, hl, hd⟩ | ⟨k, hk, c, hi, hl, hd⟩)⟩
      · exact ⟨none, _, by have := run_endLoop (P := P) hl (by rw [hrec]; simp); rw [hrec] at this; exact this, hdone _ _ (Nat.le_refl _) (hI.putObj _ hi (by omega) hl rfl) ((World.putObj_heap_other (by omega)).trans hd)⟩
      · exact ⟨some c, _, by have := run_endLoop (P := P) hl (by rw [hrec]; simp); rw [hrec] at this; exact this, hstop _ c k _ (Nat.le_refl _) hk ((hIx c).putObj _ hi (by omega) hl rfl) ((World.putObj_heap_other (by omega)).trans hd)⟩

/-- The region's operations one by one, in any order. -/
theorem round_any {P : Program} {id : Nat} {Q : Exit → Act → World → Prop} {a : Act} {w : World} {ls : List Oper} (m r : Nat) (hm : P.follows .mixedOrders = true) (hd : ∀ (i : Nat) (o : Oper), ls.toArray[i]? = some o → ∀ c, o.op ≠ .defer c) (hout : ¬ LetsOut Q)
    (h : wpAny P .any ls.toArray Q ls.toArray.size (Array.replicate ls.toArray.size false) a w.drew) : (Code.region id ls.toArray true).wpIn (Fence.wide.inRound r) m P Q a w :=
  wpIn_region_any hm (any_round m r hd hout _ _ _ _ h)
/-- All cells are as they were. -/
def Cel (W W' : World) : Prop := ∀ (b : Nat) (o : Obj), W.heap[b]? = some o → o.isCells = true → W'.heap[b]? = some o
theorem Cel.refl (W : World) : Cel W W := fun _ _ h _ => h
theorem Cel.of {W W' : World} (h : Below W.heap.size W W') : Cel W W' := fun b o hb _ => (h.block b (Array.getElem?_eq_some_iff.1 hb).1).trans hb
theorem Cel.cell {W W' : World} (h : Cel W W') {a : Addr} {u : Value} (hc : W.cell? a = some u) : W'.cell? a = some u := by
  have h2 := hc
  unfold World.cell? at h2
  split at h2
  · rename_i c t m hb
    rw [World.cell?_of_block (a := a) ((h _ _ hb rfl).trans hb.symm)]
    exact hc
  · cases h2
theorem Cel.k32 {W W' : World} (h : Cel W W') : K32 W W' := fun a x hc => h.cell hc
theorem Cel.row {W W' : World} (h : Cel W W') {v : Value} {M : List Pt} (hr : RowP W v M) : RowP W' v M := by
  obtain ⟨ao, cap, e, h1, h2, h3⟩ := hr
  refine ⟨ao, cap, e, h1, h2, fun j m hj => ?_⟩
  obtain ⟨b, o, e2, hc⟩ := h3 j m hj
  exact ⟨b, o, e2, hc.keep (fun a u hu _ => h.cell hu)⟩
theorem Cel.own {W W' : World} (h : Cel W W') {n : Nat} {v : Value} {M : List Pt} (ho : OwnP n W v M) : OwnP n W' v M := by
  refine ho.block (fun k hk => ?_)
  rcases ho.1.2 with ⟨hv, _⟩ | ⟨g, cap, cur, hv, h1, h2, h3⟩
  · rw [hv] at hk
    simp [Value.ownBlock] at hk
  · rw [hv] at hk
    simp only [Value.ownBlock, Option.some.injEq] at hk
    subst hk
    exact (h _ _ h2 rfl).trans h2.symm
theorem Cel.two {W W' : World} (h : Cel W W') {b : Nat} {x y : Value} {t : TypeId} (hb : Two W b x y t) : Two W' b x y t := h _ _ hb rfl
theorem Cel.thr {W W' : World} (h : Cel W W') {b : Nat} {x y z : Value} {t : TypeId} (hb : Thr W b x y z t) : Thr W' b x y z t := h _ _ hb rfl
/-- A block of one cell, that may be written. -/
def Uno (W : World) (b : Nat) (x : Value) (t : TypeId) : Prop := W.heap[b]? = some (.cells #[x] t (0, 0))
theorem Uno.keep {W W' : World} {b : Nat} {x : Value} {t : TypeId} (h : Uno W b x t) (hb : Below W.heap.size W W') : Uno W' b x t := (hb.block b (Array.getElem?_eq_some_iff.1 h).1).trans h
theorem Uno.c0 {W : World} {b : Nat} {x : Value} {t : TypeId} (h : Uno W b x t) : W.cell? ⟨b, 0, none⟩ = some x := by rw [cell_of_row W b 0 _ _ _ h]; rfl
theorem Uno.f0 {W : World} {b : Nat} {x : Value} {t : TypeId} (h : Uno W b x t) (j : Nat) : W.frozen? ⟨b, j, none⟩ = false := frozen_of_row W b j _ _ h
theorem Uno.lt {W : World} {b : Nat} {x : Value} {t : TypeId} (h : Uno W b x t) : b < W.heap.size := (Array.getElem?_eq_some_iff.1 h).1
theorem Uno.put {W : World} {b : Nat} {x : Value} {t : TypeId} (h : Uno W b x t) (y : Value) : Uno (W.setCell ⟨b, 0, none⟩ y) b y t := heap_setCell_same W b 0 _ _ y h
theorem Uno.noInt {W : World} {b : Nat} {y : Option Addr} {l c : Nat} {t : TypeId} (h : Uno W b (.slice y l c) t) : NoInt W b := by
  intro j k v hc
  rw [cell_of_row W b j _ _ _ h] at hc
  match j, hc with
  | 0, hc => simp at hc
  | n + 1, hc => simp at hc
theorem Cel.uno {W W' : World} (h : Cel W W') {b : Nat} {x : Value} {t : TypeId} (hb : Uno W b x t) : Uno W' b x t := h _ _ hb rfl
theorem cel_grown {B : Nat} {W W' : World} {row : Option Nat} (hg : W.grownBy W' row) (hr : ∀ r, row = some r → B ≤ r ∧ ∃ o : Obj, W.heap[r]? = some o ∧ o.isCells = false) : Cel W W' := fun b o hb ho =>
  (hg.block b (Array.getElem?_eq_some_iff.1 hb).1 (fun e => by
    obtain ⟨_, o', h1, h2⟩ := hr b e.symm
    rw [hb] at h1
    cases h1
    rw [h2] at ho
    cases ho)).trans hb
theorem ownFrom_cel {β : Type} {B : Nat} {J : β → World → Prop} (h : ∀ s W W', J s W → Cel W W' → J s W') : OwnFrom B J := fun s W W' row hs hg hr => h s W W' hs (cel_grown hg hr)
theorem ownFrom_frame {β : Type} {B n₀ : Nat} {w₀ : World} {J : β → World → Prop} (h : ∀ s W W', J s W → Cel W W' → J s W') (hn : n₀ ≤ w₀.heap.size) (hB : n₀ ≤ B) : OwnFrom B (fun s W => J s W ∧ Below n₀ w₀ W) :=
  OwnFrom.and (ownFrom_cel h) (ownFrom_below hn hB)

theorem cel_put {W : World} {D : Nat} {o : Obj} (o' : Obj) (hK : W.heap[D]? = some o) (h : o.isCells = false) : Cel W (W.putObj D o') := fun b x hb hx => by
  by_cases e : b = D
  · subst e
    rw [hK] at hb
    cases hb
    rw [h] at hx
    cases hx
  · exact (World.putObj_heap_other e).trans hb
theorem keepsFrom_of {C : Nat} {W W' : World} (h : Below W.heap.size W W') : KeepsFrom C W W' := ⟨h.size, fun k o _ hk _ => (h.block k (Array.getElem?_eq_some_iff.1 hk).1).trans hk⟩

/-- The same, where the last variable of the round is laid into a block of its own ahead of it. -/
theorem range_knownC {P : Program} {g : Operand} {ps : Array Tmp} {assign body : Code} {Q : Exit → Act → World → Prop} {a : Act} {w : World}
    {gf : Nat} {lb : Array Value} (hg : a.eval g = .func (.func gf) #[] lb) (eg : ∀ args w, (callFunc gf args).run P w = .ok (.enter gf args) w)
    {N : Nat} {args : Nat → Array Value} {Know : Nat → World → Prop} (hseq : HandsB P gf lb N args Know) (hps : ∀ k, (args k).size = ps.size)
    (J : Nat → World → Prop) (Jx : Code → Nat → World → Prop) (hJ : ∀ k W W', J k W → Cel W W' → J k W') (hJx : ∀ c k W W', Jx c k W → Cel W W' → Jx c k W') (n₀ : Nat) (w₀ : World) (hn : n₀ ≤ w₀.heap.size) (hn2 : n₀ ≤ w.heap.size)
    (hKn : ∀ k W, J k W → Know k W) (h0 : J 0 w ∧ Below n₀ w₀ w) (o : Nat → Obj) (ho : ∀ k, (o k).isCells = true) (a₁ : Nat → Nat → Act)
    (hassign : ∀ (l k B : Nat) (W : World) (K : Act → World → Prop), k < N → W.heap.size = B → K (a₁ k B) (W.alloc (o k)) →
      assign.wpIn (Fence.wide.inRound l) 1 P (Exit.then K (fun _ _ _ => False)) { tmps := (ps.zip (args k)).foldl (fun t (p, v) => t.setIfInBounds p v) a.tmps, defers := [] } W)
    (hbody : ∀ (l k B : Nat) (W : World), k < N → J k W → Below n₀ w₀ W → W.heap[B]? = some (o k) → w.heap.size ≤ B →
      body.wpIn (Fence.wide.inRound l) 1 P (roundPost w.heap.size (fun k W => J k W ∧ Below n₀ w₀ W) (fun c k W => Jx c k W ∧ Below n₀ w₀ W) k W) (a₁ k B) W)
    (hdone : ∀ (D : Nat) (W : World), w.heap.size ≤ D → J N W → Below n₀ w₀ W → W.heap[D]? = some (.deferred (some [])) → Q .normal { a with defers := { target := .collected D, args := #[] } :: a.defers } W)
    (hstop : ∀ (D : Nat) (c : Code) (k : Nat) (W : World), w.heap.size ≤ D → k < N → Jx c k W → Below n₀ w₀ W → W.heap[D]? = some (.deferred (some [])) → c.wpIn Fence.wide 3 P Q { a with defers := { target := .collected D, args := #[] } :: a.defers } W) :
    (Code.rangeFunc g ps assign body).wpIn Fence.wide 3 P Q a w := by
  have hown : ∀ {β : Type} {F : β → World → Prop}, (∀ s W W', F s W → Cel W W' → F s W') → OwnFrom w.heap.size (fun s W => (F s W ∧ w.heap.size ≤ W.heap.size) ∧ Below n₀ w₀ W) := fun hF s W W' row hs hgr hr =>
    ⟨⟨hF s W W' hs.1.1 (cel_grown hgr hr), Nat.le_trans hs.1.2 hgr.size⟩, (ownFrom_below (β := Unit) hn hn2) () W W' row hs.2 hgr hr⟩
  refine range_knownA hg eg hseq hps (fun k W => (J k W ∧ w.heap.size ≤ W.heap.size) ∧ Below n₀ w₀ W) (fun c k W => (Jx c k W ∧ w.heap.size ≤ W.heap.size) ∧ Below n₀ w₀ W) (hown hJ) (fun c => hown (hJx c)) (fun k W h => hKn k W h.1.1)
    (fun k W W' h hb => ⟨⟨hJ k W W' h.1.1 (Cel.of hb), Nat.le_trans h.1.2 hb.size⟩, h.2.trans (hb.mono (Nat.le_trans hn h.2.size))⟩) ⟨⟨h0.1, Nat.le_refl _⟩, h0.2⟩
    (fun p W2 => (((∃ B, p.2 = a₁ p.1 B ∧ W2.heap[B]? = some (o p.1) ∧ w.heap.size ≤ B) ∧ J p.1 W2) ∧ w.heap.size ≤ W2.heap.size) ∧ Below n₀ w₀ W2) (hown ?_) ?_ ?_ (fun D W hD h hK => hdone D W hD h.1.1 h.2 hK) (fun D c k W hD hk h hK => hstop D c k W hD hk h.1.1 h.2 hK)
  · rintro s W W' ⟨⟨B, e1, e2, e3⟩, e4⟩ hc
    exact ⟨⟨B, e1, hc _ _ e2 (ho _), e3⟩, hJ _ _ _ e4 hc⟩
  · intro l k W K hk hI hK
    exact hassign l k W.heap.size W K hk rfl (hK _ _ (bel _ _) ⟨⟨⟨⟨W.heap.size, rfl, World.alloc_heap_new W _, hI.1.2⟩, hJ _ _ _ hI.1.1 (Cel.of (bel _ _))⟩, Nat.le_trans hI.1.2 (bel W _).size⟩, bafter hI.2 (bel _ _) hn⟩)
  · rintro l k a1 W hk ⟨⟨⟨⟨B, e1, e2, e3⟩, e4⟩, e6⟩, e5⟩
    dsimp only at e1 e2
    subst e1
    refine wpIn_mono (hbody l k B W hk e4 e5 e2 e3) ?_
    rintro e a3 W3 hp
    cases e with
    | normal => exact ⟨hp.1, ⟨hp.2.1, Nat.le_trans e6 hp.1.size⟩, hp.2.2⟩
    | ret => exact ⟨hp.1, ⟨hp.2.1, Nat.le_trans e6 hp.1.size⟩, hp.2.2⟩
    | exit id => exact ⟨hp.1, ⟨hp.2.1, Nat.le_trans e6 hp.1.size⟩, hp.2.2⟩
    | goto t => exact ⟨hp.1, ⟨hp.2.1, Nat.le_trans e6 hp.1.size⟩, hp.2.2⟩
    | panic c => exact hp
    | outgrown => exact hp

end Go.Proofs.YtbjolmgobeagoaaGreatDoor
