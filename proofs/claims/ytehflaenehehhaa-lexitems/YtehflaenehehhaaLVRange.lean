/- A law for a loop over an iterator that keeps memory of its own from round to round: it names its blocks, and the body leaves them as they are. -/
import Derived.Test.YtehflaenehehhaaLTokens
namespace Go.Proofs.Ytehflaenehehhaa
set_option linter.unusedVariables false
set_option linter.unusedSimpArgs false
open Go Go.RowKit Go.Shelf

/-- What the iterator may do between two rounds: its own blocks, and what is no cells and lies at D or above, may turn; there may be more. -/
structure Turn (D : Nat) (Pv : Nat → Prop) (W W' : World) : Prop where
  os : W'.os = W.os
  tape : W'.tape = W.tape
  output : W'.output = W.output
  size : W.heap.size ≤ W'.heap.size
  block : ∀ (b : Nat) (o : Obj), W.heap[b]? = some o → ¬ Pv b → (o.isCells = true ∨ b < D) → W'.heap[b]? = some o
theorem Turn.of_below {D : Nat} {Pv : Nat → Prop} {W W' : World} (h : Below W.heap.size W W') : Turn D Pv W W' :=
  ⟨h.os, h.tape, h.output, h.size, fun b o ho _ _ => (h.block b (Array.getElem?_eq_some_iff.1 ho).1).trans ho⟩
theorem Turn.refl {D : Nat} {Pv : Nat → Prop} (W : World) : Turn D Pv W W := Turn.of_below (Below.refl _ _)
theorem Turn.trans {D : Nat} {Pv Pv' : Nat → Prop} {W W' W'' : World} (h : Turn D Pv W W') (k : Turn D Pv' W' W'') (hp : ∀ b, Pv' b → Pv b ∨ W.heap.size ≤ b) : Turn D Pv W W'' :=
  ⟨k.os.trans h.os, k.tape.trans h.tape, k.output.trans h.output, Nat.le_trans h.size k.size, fun b o ho hn hc => k.block b o (h.block b o ho hn hc) (fun e => by
    rcases hp b e with g | g
    · exact hn g
    · have := (Array.getElem?_eq_some_iff.1 ho).1; omega) hc⟩
theorem Turn.setCell {D : Nat} {Pv : Nat → Prop} (W : World) (a : Addr) (v : Value) (h : Pv a.block) : Turn D Pv W (W.setCell a v) :=
  ⟨rfl, rfl, rfl, (KeepsOthers.setCell W a v).size, fun b o ho hn _ => (heap_setCell_other W a b v (fun e => hn (by rw [e]; exact h))).trans ho⟩
theorem Turn.grown {D : Nat} {Pv : Nat → Prop} {W W' : World} {row : Option Nat} (hg : W.grownBy W' row) (hr : ∀ r, row = some r → D ≤ r ∧ ∃ o : Obj, W.heap[r]? = some o ∧ o.isCells = false) : Turn D Pv W W' :=
  ⟨hg.os, hg.tape, hg.output, hg.size, fun b o ho _ hc => (hg.block b (Array.getElem?_eq_some_iff.1 ho).1 (fun e => by
    obtain ⟨h1, o', h2, h3⟩ := hr b e.symm
    rw [ho] at h2
    cases h2
    rcases hc with g | g
    · rw [h3] at g; cases g
    · omega)).trans ho⟩

/-- These blocks are as they were. -/
def KeepsP (Pv : Nat → Prop) (W W' : World) : Prop := ∀ (b : Nat) (o : Obj), Pv b → W.heap[b]? = some o → W'.heap[b]? = some o

/-- What such an iterator owes. -/
def HandsV (P : Program) (gf : Nat) (lb : Array Value) (N : Nat) (args : Nat → Array Value) (Know : Nat → World → Prop) : Prop :=
  ∀ (l : Nat) (J Jx : Nat → (Nat → Prop) → World → Prop) (W : World), (∀ k Pv W, J k Pv W → Know k W) →
    (∀ k Pv W2 W3 Pv', J k Pv W2 → Turn W.heap.size Pv W2 W3 → (∀ b, Pv' b → Pv b ∨ (W2.heap.size ≤ b ∧ b < W3.heap.size)) → J k Pv' W3) →
    (∀ k Pv W2 W3, Jx k Pv W2 → Turn W.heap.size Pv W2 W3 → Jx k Pv W3) →
    (∀ k Pv W2, k < N → J k Pv W2 → YieldAt Fence.wide 1 P l (args k) W2 fun e W' => (KeepsFrom W.heap.size W2 W' ∧ KeepsP Pv W2 W') ∧ ((e = .returned (.bool true) ∧ J (k + 1) Pv W') ∨ (e = .returned (.bool false) ∧ Jx k Pv W'))) →
    J 0 (fun _ => False) W → CallsIn Fence.wide 2 P gf (#[.func (.yield l) #[] #[]] ++ lb) W fun e W' => (∃ v, e = .returned v) ∧ ((∃ Pv, J N Pv W') ∨ ∃ k Pv, k < N ∧ Jx k Pv W')

/-- How the body of round k may be left. -/
def roundPostV (B : Nat) (I : Nat → (Nat → Prop) → World → Prop) (Ix : Code → Nat → (Nat → Prop) → World → Prop) (k : Nat) (Pv : Nat → Prop) (W : World) : Exit → Act → World → Prop
  | .normal, _, W' => (KeepsFrom B W W' ∧ KeepsP Pv W W') ∧ I (k + 1) Pv W'
  | .ret, _, W' => (KeepsFrom B W W' ∧ KeepsP Pv W W') ∧ Ix .ret k Pv W'
  | .exit id, _, W' => (KeepsFrom B W W' ∧ KeepsP Pv W W') ∧ Ix (.exit id) k Pv W'
  | .goto t, _, W' => (KeepsFrom B W W' ∧ KeepsP Pv W W') ∧ Ix (.goto t) k Pv W'
  | .panic _, _, _ => False
  | .outgrown, _, _ => False

theorem range_knownV {P : Program} {g : Operand} {ps : Array Tmp} {assign body : Code} {Q : Exit → Act → World → Prop} {a : Act} {w : World}
    {gf : Nat} {lb : Array Value} (hg : a.eval g = .func (.func gf) #[] lb) (eg : ∀ args w, (callFunc gf args).run P w = .ok (.enter gf args) w)
    {N : Nat} {args : Nat → Array Value} {Know : Nat → World → Prop} (hseq : HandsV P gf lb N args Know) (hps : ∀ k, (args k).size = ps.size)
    (I : Nat → (Nat → Prop) → World → Prop) (Ix : Code → Nat → (Nat → Prop) → World → Prop) (hI : ∀ Pv, OwnFrom w.heap.size (fun k W => I k Pv W)) (hIx : ∀ c Pv, OwnFrom w.heap.size (fun k W => Ix c k Pv W)) (hKn : ∀ k Pv W, I k Pv W → Know k W)
    (hIT : ∀ k Pv Pv' W2 W3, I k Pv W2 → (∀ b, Pv b → w.heap.size + 2 ≤ b ∧ b < W2.heap.size) → Turn (w.heap.size + 2) Pv W2 W3 → (∀ b, Pv' b → Pv b ∨ W2.heap.size ≤ b) → I k Pv' W3)
    (hIxT : ∀ c k Pv W2 W3, Ix c k Pv W2 → (∀ b, Pv b → w.heap.size + 2 ≤ b) → Turn (w.heap.size + 2) Pv W2 W3 → Ix c k Pv W3)
    (h0 : I 0 (fun _ => False) w) (I₁ : Nat × Act → (Nat → Prop) → World → Prop) (hI₁ : ∀ Pv, OwnFrom w.heap.size (fun p W => I₁ p Pv W))
    (hassign : ∀ (l k : Nat) (Pv : Nat → Prop) (W : World) (K : Act → World → Prop), k < N → (∀ b, Pv b → w.heap.size + 2 ≤ b ∧ b < W.heap.size) → I k Pv W → (∀ a1 W2, Below W.heap.size W W2 → I₁ (k, a1) Pv W2 → K a1 W2) →
      assign.wpIn (Fence.wide.inRound l) 1 P (Exit.then K (fun _ _ _ => False)) { tmps := (ps.zip (args k)).foldl (fun t (p, v) => t.setIfInBounds p v) a.tmps, defers := [] } W)
    (hbody : ∀ (l k : Nat) (Pv : Nat → Prop) (a1 : Act) (W : World), k < N → (∀ b, Pv b → w.heap.size + 2 ≤ b ∧ b < W.heap.size) → I₁ (k, a1) Pv W → body.wpIn (Fence.wide.inRound l) 1 P (roundPostV w.heap.size I Ix k Pv W) a1 W)
    (hdone : ∀ (D : Nat) (Pv : Nat → Prop) (W : World), w.heap.size ≤ D → I N Pv W → W.heap[D]? = some (.deferred (some [])) → Q .normal { a with defers := { target := .collected D, args := #[] } :: a.defers } W)
    (hstop : ∀ (D : Nat) (c : Code) (k : Nat) (Pv : Nat → Prop) (W : World), w.heap.size ≤ D → k < N → Ix c k Pv W → W.heap[D]? = some (.deferred (some [])) → c.wpIn Fence.wide 3 P Q { a with defers := { target := .collected D, args := #[] } :: a.defers } W) :
    (Code.rangeFunc g ps assign body).wpIn Fence.wide 3 P Q a w := by
  refine wpIn_rangeFunc ?_
  intro fn hfn
  show ∃ x, _
  obtain ⟨rec, hrec⟩ : ∃ rec : LoopState → Option Code → Loop, rec = fun st pe => { state := st, pending := pe, fn, tmps := a.tmps, params := ps, assign, body, defers := w.heap.size } := ⟨_, rfl⟩
  obtain ⟨W1, hW1⟩ : ∃ W1, (w.alloc (.deferred (some []))).alloc (.loop (rec .ready none)) = W1 := ⟨_, rfl⟩
  have hL1 : W1.heap[w.heap.size + 1]? = some (.loop (rec .ready none)) := by
    rw [← hW1]
    simpa using World.alloc_heap_new (w.alloc (.deferred (some []))) (.loop (rec .ready none))
  have hK1 : W1.heap[w.heap.size]? = some (.deferred (some [])) := by
    rw [← hW1]
    exact (Below.heap_alloc _ _ _ (by simp)).trans (World.alloc_heap_new w _)
  have hI1 : I 0 (fun _ => False) W1 := by rw [← hW1]; exact (hI _).alloc _ ((hI _).alloc _ h0)
  have hD : W1.heap.size = w.heap.size + 2 := by rw [← hW1]; simp
  refine ⟨w.heap.size + 1, [{ target := .collected w.heap.size, args := #[] }], W1, { target := .fn (.func gf) lb, args := #[.func (.yield (w.heap.size + 1)) #[] #[]] }, W1, gf,
    #[.func (.yield (w.heap.size + 1)) #[] #[]] ++ lb, W1, ?_, ?_, ?_, ?_, fun _ => by omega, ?_⟩
  · rw [← hW1, hrec]
    exact run_enterLoop_outer _ _ _ _ _
  · simp only [resolve, hg]
    simp [go_sem]
  · intro f' _
    exact trivial
  · simp [invoke, go_sem, eg]
  · -- The two blocks of the loop's book-keeping, beside the caller's invariant.
    refine (hseq (w.heap.size + 1)
      (fun k Pv W => I k Pv W ∧ W.heap[w.heap.size + 1]? = some (.loop (rec .ready none)) ∧ W.heap[w.heap.size]? = some (.deferred (some [])) ∧ ∀ b, Pv b → w.heap.size + 2 ≤ b ∧ b < W.heap.size)
      (fun k Pv W => ∃ c, Ix c k Pv W ∧ W.heap[w.heap.size + 1]? = some (.loop (rec .done (some c))) ∧ W.heap[w.heap.size]? = some (.deferred (some [])) ∧ ∀ b, Pv b → w.heap.size + 2 ≤ b)
      W1 (fun k Pv W h => hKn k Pv W h.1) ?stab ?stabx ?_ ⟨hI1, hL1, hK1, fun b hb => hb.elim⟩).mono ?_
    case stab =>
      rintro k Pv W2 W3 Pv' ⟨h1, h2, h3, h4⟩ ht hp
      rw [hD] at ht
      refine ⟨hIT k Pv Pv' W2 W3 h1 h4 ht (fun b hb => (hp b hb).imp id (fun x => x.1)), ht.block _ _ h2 (fun e => by have := (h4 _ e).1; omega) (.inr (by omega)), ht.block _ _ h3 (fun e => by have := (h4 _ e).1; omega) (.inr (by omega)), fun b hb => ?_⟩
      have := ht.size
      have hl2 := (Array.getElem?_eq_some_iff.1 h2).1
      rcases hp b hb with g | g
      · have := h4 b g; omega
      · omega
    case stabx =>
      rintro k Pv W2 W3 ⟨c, h1, h2, h3, h4⟩ ht
      rw [hD] at ht
      exact ⟨c, hIxT c k Pv W2 W3 h1 h4 ht, ht.block _ _ h2 (fun e => by have := h4 _ e; omega) (.inr (by omega)), ht.block _ _ h3 (fun e => by have := h4 _ e; omega) (.inr (by omega)), h4⟩
    · rintro k Pv W hk ⟨hi, hl, hd, hpv⟩
      have hlt : w.heap.size + 1 < W.heap.size := (Array.getElem?_eq_some_iff.1 hl).1
      have hy := run_yield (P := P) (args := args k) hl (by rw [hrec]; exact hps k)
      rw [hrec] at hy
      refine ⟨fn, _, assign, body, hy, roundIn_of_wpIn hfn (hassign _ k Pv W _ hk hpv hi ?_)⟩
      intro a1 W2 hb2 hi1
      replace hd : W2.heap[w.heap.size]? = some (.deferred (some [])) := (hb2.block _ (by omega)).trans hd
      replace hl : W2.heap[w.heap.size + 1]? = some (.loop (rec .ready none)) := (hb2.block _ hlt).trans hl
      replace hlt : w.heap.size + 1 < W2.heap.size := (Array.getElem?_eq_some_iff.1 hl).1
      have hpv2 : ∀ b, Pv b → w.heap.size + 2 ≤ b ∧ b < W2.heap.size := fun b hb => ⟨(hpv b hb).1, Nat.lt_of_lt_of_le (hpv b hb).2 hb2.size⟩
      have hkb : KeepsP Pv W W2 := fun b o hb ho => (hb2.block b (hpv b hb).2).trans ho
      have hkf : KeepsFrom (w.heap.size + 2) W W2 := ⟨hb2.size, fun k o _ ho _ => (hb2.block k (Array.getElem?_eq_some_iff.1 ho).1).trans ho⟩
      clear hy hi
      refine ⟨_, run_beginRound hl (by rw [hrec]), ?_⟩
      have hl2 : (W2.putObj (w.heap.size + 1) (.loop { rec .ready none with state := .busy })).heap[w.heap.size + 1]? = some (.loop { rec .ready none with state := .busy }) := World.putObj_heap_same hlt
      have hd2 : (W2.putObj (w.heap.size + 1) (.loop { rec .ready none with state := .busy })).heap[w.heap.size]? = some (.deferred (some [])) := (World.putObj_heap_other (by omega)).trans hd
      have hpv3 : ∀ b, Pv b → w.heap.size + 2 ≤ b ∧ b < (W2.putObj (w.heap.size + 1) (.loop { rec .ready none with state := .busy })).heap.size := fun b hb => by
        have := hpv2 b hb
        simpa using this
      have put : ∀ (X : World) (o : Obj), KeepsP Pv X (X.putObj (w.heap.size + 1) o) ∧ KeepsFrom (w.heap.size + 2) X (X.putObj (w.heap.size + 1) o) := fun X o =>
        ⟨fun b o' hb ho => (World.putObj_heap_other (by have := (hpv b hb).1; omega)).trans ho, ⟨by simp, fun b o' hb ho _ => (World.putObj_heap_other (by omega)).trans ho⟩⟩
      have far : ∀ {X Y : World}, KeepsFrom w.heap.size X Y → KeepsFrom (w.heap.size + 2) X Y := fun h => ⟨h.size, fun k o hk => h.same k o (by omega)⟩
      have joinP : ∀ {X Y Z : World}, KeepsP Pv X Y → KeepsP Pv Y Z → KeepsP Pv X Z := fun h1 h2 b o hb ho => h2 b o hb (h1 b o hb ho)
      refine wpIn_mono (hbody _ k Pv a1 _ hk hpv3 ((hI₁ Pv).putObj _ hi1 (by omega) hl rfl)) ?_
      have fin : ∀ (jump : Option Code) (W3 : World), KeepsFrom w.heap.size (W2.putObj (w.heap.size + 1) (.loop { rec .ready none with state := .busy })) W3 →
          (Instr.endRound (w.heap.size + 1) jump).run P W3 = .ok (.bool jump.isNone) (W3.putObj (w.heap.size + 1) (.loop (rec (if jump.isNone then .ready else .done) jump))) ∧
          W3.heap[w.heap.size + 1]? = some (.loop { rec .ready none with state := .busy }) ∧
          (W3.putObj (w.heap.size + 1) (.loop (rec (if jump.isNone then .ready else .done) jump))).heap[w.heap.size + 1]? = some (.loop (rec (if jump.isNone then .ready else .done) jump)) ∧
          (W3.putObj (w.heap.size + 1) (.loop (rec (if jump.isNone then .ready else .done) jump))).heap[w.heap.size]? = some (.deferred (some [])) := fun jump W3 hk3 => by
        have hl3 := hk3.same _ _ (by omega) hl2 rfl
        have := run_endRound (P := P) jump hl3
        rw [hrec] at this ⊢
        exact ⟨this, by rw [hrec] at hl3; exact hl3, World.putObj_heap_same (Array.getElem?_eq_some_iff.1 hl3).1, (World.putObj_heap_other (by omega)).trans (hk3.same _ _ (Nat.le_refl _) hd2 rfl)⟩
      rintro e a3 W3 hp
      cases e with
      | normal =>
        obtain ⟨hr, hl3, hl4, hk4⟩ := fin none W3 hp.1.1
        have kp : ∀ o, KeepsP Pv W (W3.putObj (w.heap.size + 1) o) := fun o => joinP hkb (joinP (put W2 _).1 (joinP hp.1.2 (put W3 _).1))
        have kf : ∀ o, KeepsFrom W1.heap.size W (W3.putObj (w.heap.size + 1) o) := fun o => by rw [hD]; exact hkf.trans ((put W2 _).2.trans ((far hp.1.1).trans (put W3 _).2))
        exact ⟨_, _, hr, ⟨kf _, kp _⟩, .inl ⟨rfl, (hI Pv).putObj _ hp.2 (by omega) hl3 rfl, hl4, hk4, fun b hb => ⟨(hpv b hb).1, Nat.lt_of_lt_of_le (hpv b hb).2 (kf _).size⟩⟩⟩
      | ret =>
        obtain ⟨hr, hl3, hl4, hk4⟩ := fin (some .ret) W3 hp.1.1
        have kp : ∀ o, KeepsP Pv W (W3.putObj (w.heap.size + 1) o) := fun o => joinP hkb (joinP (put W2 _).1 (joinP hp.1.2 (put W3 _).1))
        have kf : ∀ o, KeepsFrom W1.heap.size W (W3.putObj (w.heap.size + 1) o) := fun o => by rw [hD]; exact hkf.trans ((put W2 _).2.trans ((far hp.1.1).trans (put W3 _).2))
        exact ⟨_, _, hr, ⟨kf _, kp _⟩, .inr ⟨rfl, .ret, (hIx _ Pv).putObj _ hp.2 (by omega) hl3 rfl, hl4, hk4, fun b hb => (hpv b hb).1⟩⟩
      | exit id =>
        obtain ⟨hr, hl3, hl4, hk4⟩ := fin (some (.exit id)) W3 hp.1.1
        have kp : ∀ o, KeepsP Pv W (W3.putObj (w.heap.size + 1) o) := fun o => joinP hkb (joinP (put W2 _).1 (joinP hp.1.2 (put W3 _).1))
        have kf : ∀ o, KeepsFrom W1.heap.size W (W3.putObj (w.heap.size + 1) o) := fun o => by rw [hD]; exact hkf.trans ((put W2 _).2.trans ((far hp.1.1).trans (put W3 _).2))
        exact ⟨_, _, hr, ⟨kf _, kp _⟩, .inr ⟨rfl, .exit id, (hIx _ Pv).putObj _ hp.2 (by omega) hl3 rfl, hl4, hk4, fun b hb => (hpv b hb).1⟩⟩
      | goto t =>
        obtain ⟨hr, hl3, hl4, hk4⟩ := fin (some (.goto t)) W3 hp.1.1
        have kp : ∀ o, KeepsP Pv W (W3.putObj (w.heap.size + 1) o) := fun o => joinP hkb (joinP (put W2 _).1 (joinP hp.1.2 (put W3 _).1))
        have kf : ∀ o, KeepsFrom W1.heap.size W (W3.putObj (w.heap.size + 1) o) := fun o => by rw [hD]; exact hkf.trans ((put W2 _).2.trans ((far hp.1.1).trans (put W3 _).2))
        exact ⟨_, _, hr, ⟨kf _, kp _⟩, .inr ⟨rfl, .goto t, (hIx _ Pv).putObj _ hp.2 (by omega) hl3 rfl, hl4, hk4, fun b hb => (hpv b hb).1⟩⟩
      | panic ch => exact hp.elim
      | outgrown => exact hp.elim
    · rintro e W2 ⟨⟨v, rfl⟩, (⟨Pv, hi, hl, hd, _⟩ | ⟨k, Pv, hk, c, hi, hl, hd, _⟩)⟩
      · exact ⟨none, _, by have := run_endLoop (P := P) hl (by rw [hrec]; simp); rw [hrec] at this; exact this, hdone _ Pv _ (Nat.le_refl _) ((hI Pv).putObj _ hi (by omega) hl rfl) ((World.putObj_heap_other (by omega)).trans hd)⟩
      · exact ⟨some c, _, by have := run_endLoop (P := P) hl (by rw [hrec]; simp); rw [hrec] at this; exact this, hstop _ c k Pv _ (Nat.le_refl _) hk ((hIx c Pv).putObj _ hi (by omega) hl rfl) ((World.putObj_heap_other (by omega)).trans hd)⟩

end Go.Proofs.Ytehflaenehehhaa
