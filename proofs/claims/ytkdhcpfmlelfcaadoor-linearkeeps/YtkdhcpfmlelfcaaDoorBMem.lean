/- A law for a loop over an iterator that hands over N values and reads, ahead of each round, what the caller's invariant says of memory; the number of rounds that are over is the invariant's index. Numbers as lists of digits to a base, the lowest first: what a list is worth, lists without noughts at their end, and that these are one for each number. The iterator fromTop hands over a slice's numbers, the last one first, to whatever round keeps the slice and the numbers that are still to come. What it means that a slice of 32-bit numbers in memory is a list of digits; and the contract of trim: it cuts off the noughts at the end. -/
import Derived.RangeFuncNested
import Derived.RangeFuncBound
import Derived.RangeFuncCalls
import Derived.RangeFuncLeaves
import Derived.Shelf.Abstract
import Derived.Shelf.RegionOpen
import Derived.WalkKit
import Derived.OwnWalkIn
import Derived.TacticsInMore
import Derived.LoopNIn
import Derived.LoopIn
import Derived.Test.YtkdhcpfmlelfcaaDoorRows
import Derived.WalkSpells
import Derived.WalkLawsBesides

/- A law for a loop over an iterator that hands over N values and reads, ahead of each round, what the caller's invariant says of memory; the number of rounds that are over is the invariant's index. -/
namespace Go.Proofs.YtkdhcpfmlelfcaaDoor
set_option linter.unusedVariables false
set_option linter.unusedSimpArgs false
open Go Go.RowKit Go.Shelf

/-- How the body of round k may be left. -/
def roundPost (B : Nat) (I : Nat → World → Prop) (Ix : Code → Nat → World → Prop) (k : Nat) (W : World) : Exit → Act → World → Prop
  | .normal, _, W' => KeepsFrom B W W' ∧ I (k + 1) W'
  | .ret, _, W' => KeepsFrom B W W' ∧ Ix .ret k W'
  | .exit id, _, W' => KeepsFrom B W W' ∧ Ix (.exit id) k W'
  | .goto t, _, W' => KeepsFrom B W W' ∧ Ix (.goto t) k W'
  | .panic _, _, _ => False
  | .outgrown, _, _ => False

/-- What an iterator owes: of whatever J that says enough of memory ahead of each round. -/
def Hands (P : Program) (gf : Nat) (lb : Array Value) (N : Nat) (args : Nat → Array Value) (Know : Nat → World → Prop) : Prop :=
  ∀ (l : Nat) (J Jx : Nat → World → Prop) (W : World), (∀ k W, J k W → Know k W) →
    (∀ k W1, k < N → J k W1 → YieldAt Fence.wide 1 P l (args k) W1 fun e W' => (e = .returned (.bool true) ∧ J (k + 1) W') ∨ (e = .returned (.bool false) ∧ Jx k W')) →
    J 0 W → CallsIn Fence.wide 2 P gf (#[.func (.yield l) #[] #[]] ++ lb) W fun e W' => (∃ v, e = .returned v) ∧ (J N W' ∨ ∃ k, k < N ∧ Jx k W')

theorem range_known {P : Program} {g : Operand} {ps : Array Tmp} {assign body : Code} {Q : Exit → Act → World → Prop} {a : Act} {w : World}
    {gf : Nat} {lb : Array Value} (hg : a.eval g = .func (.func gf) #[] lb) (eg : ∀ args w, (callFunc gf args).run P w = .ok (.enter gf args) w)
    {N : Nat} {args : Nat → Array Value} {Know : Nat → World → Prop} (hseq : Hands P gf lb N args Know) (hps : ∀ k, (args k).size = ps.size)
    (I : Nat → World → Prop) (Ix : Code → Nat → World → Prop) (hI : OwnFrom w.heap.size I) (hIx : ∀ c, OwnFrom w.heap.size (Ix c)) (hKn : ∀ k W, I k W → Know k W) (h0 : I 0 w) (a₁ : Nat → Act)
    (hassign : ∀ (l k : Nat) (W : World) (K : Act → World → Prop), k < N → K (a₁ k) W →
      assign.wpIn (Fence.wide.inRound l) 1 P (Exit.then K (fun _ _ _ => False)) { tmps := (ps.zip (args k)).foldl (fun t (p, v) => t.setIfInBounds p v) a.tmps, defers := [] } W)
    (hbody : ∀ (l k : Nat) (W : World), k < N → I k W → body.wpIn (Fence.wide.inRound l) 1 P (roundPost w.heap.size I Ix k W) (a₁ k) W)
    (hdone : ∀ (D : Nat) (W : World), w.heap.size ≤ D → I N W → W.heap[D]? = some (.deferred (some [])) → Q .normal { a with defers := { target := .collected D, args := #[] } :: a.defers } W)
    (hstop : ∀ (D : Nat) (c : Code) (k : Nat) (W : World), w.heap.size ≤ D → k < N → Ix c k W → W.heap[D]? = some (.deferred (some [])) → c.wpIn Fence.wide 3 P Q { a with defers := { target := .collected D, args := #[] } :: a.defers } W) :
    (Code.rangeFunc g ps assign body).wpIn Fence.wide 3 P Q a w := by
  refine wpIn_rangeFunc ?_
  intro fn hfn
  show ∃ x, _
  obtain ⟨rec, hrec⟩ : ∃ rec : LoopState → Option Code → Loop, rec = fun st pe => { state := st, pending := pe, fn, tmps := a.tmps, params := ps, assign, body, defers := w.heap.size } := ⟨_, rfl⟩
  obtain ⟨W1, hW1⟩ : ∃ W1, (w.alloc (.deferred (some []))).alloc (.loop (rec .ready none)) = W1 := ⟨_, rfl⟩
  have hL1 : W1.heap[w.heap.size + 1]? = some (.loop (rec .ready none)) := by
    rw [← hW1]
    simpa using World.alloc_heap_new (w.alloc (.deferred (some []))) (.loop (rec .ready none))
  have hK1 : W1.heap[w.heap.size]? = some (.deferred (some [])) := by
    rw [← hW1]
    exact (Below.heap_alloc _ _ _ (by simp)).trans (World.alloc_heap_new w _)
  have hI1 : I 0 W1 := by rw [← hW1]; exact hI.alloc _ (hI.alloc _ h0)
  refine ⟨w.heap.size + 1, [{ target := .collected w.heap.size, args := #[] }], W1, { target := .fn (.func gf) lb, args := #[.func (.yield (w.heap.size + 1)) #[] #[]] }, W1, gf,
    #[.func (.yield (w.heap.size + 1)) #[] #[]] ++ lb, W1, ?_, ?_, ?_, ?_, fun _ => by omega, ?_⟩
  · rw [← hW1, hrec]
    exact run_enterLoop_outer _ _ _ _ _
  · simp only [resolve, hg]
    simp [go_sem]
  · intro f' _
    exact trivial
  · simp [invoke, go_sem, eg]
  · -- The two blocks of the loop's book-keeping, beside the caller's invariant.
    refine (hseq (w.heap.size + 1)
      (fun k W => I k W ∧ W.heap[w.heap.size + 1]? = some (.loop (rec .ready none)) ∧ W.heap[w.heap.size]? = some (.deferred (some [])))
      (fun k W => ∃ c, Ix c k W ∧ W.heap[w.heap.size + 1]? = some (.loop (rec .done (some c))) ∧ W.heap[w.heap.size]? = some (.deferred (some [])))
      W1 (fun k W h => hKn k W h.1) ?_ ⟨hI1, hL1, hK1⟩).mono ?_
    · rintro k W hk ⟨hi, hl, hd⟩
      have hlt : w.heap.size + 1 < W.heap.size := (Array.getElem?_eq_some_iff.1 hl).1
      have hy := run_yield (P := P) (args := args k) hl (by rw [hrec]; exact hps k)
      rw [hrec] at hy
      refine ⟨fn, _, assign, body, hy, roundIn_of_wpIn hfn (hassign _ k W _ hk ⟨_, run_beginRound hl (by rw [hrec]), ?_⟩)⟩
      have hl2 : (W.putObj (w.heap.size + 1) (.loop { rec .ready none with state := .busy })).heap[w.heap.size + 1]? = some (.loop { rec .ready none with state := .busy }) := World.putObj_heap_same hlt
      have hd2 : (W.putObj (w.heap.size + 1) (.loop { rec .ready none with state := .busy })).heap[w.heap.size]? = some (.deferred (some [])) := (World.putObj_heap_other (by omega)).trans hd
      refine wpIn_mono (hbody _ k _ hk (hI.putObj _ hi (by omega) hl rfl)) ?_
      have fin : ∀ (jump : Option Code) (W3 : World), KeepsFrom w.heap.size (W.putObj (w.heap.size + 1) (.loop { rec .ready none with state := .busy })) W3 →
          (Instr.endRound (w.heap.size + 1) jump).run P W3 = .ok (.bool jump.isNone) (W3.putObj (w.heap.size + 1) (.loop (rec (if jump.isNone then .ready else .done) jump))) ∧
          W3.heap[w.heap.size + 1]? = some (.loop { rec .ready none with state := .busy }) ∧
          (W3.putObj (w.heap.size + 1) (.loop (rec (if jump.isNone then .ready else .done) jump))).heap[w.heap.size + 1]? = some (.loop (rec (if jump.isNone then .ready else .done) jump)) ∧
          (W3.putObj (w.heap.size + 1) (.loop (rec (if jump.isNone then .ready else .done) jump))).heap[w.heap.size]? = some (.deferred (some [])) := fun jump W3 hk3 => by
        have hl3 := hk3.same _ _ (by omega) hl2 rfl
        have := run_endRound (P := P) jump hl3
        rw [hrec] at this ⊢
        exact ⟨this, by rw [hrec] at hl3; exact hl3, World.putObj_heap_same (Array.getElem?_eq_some_iff.1 hl3).1, (World.putObj_heap_other (by omega)).trans (hk3.same _ _ (Nat.le_refl _) hd2 rfl)⟩
      rintro e a3 W3 hp
      cases e with
      | normal =>
        obtain ⟨hr, hl3, hl4, hk4⟩ := fin none W3 hp.1
        exact ⟨_, _, hr, .inl ⟨rfl, hI.putObj _ hp.2 (by omega) hl3 rfl, hl4, hk4⟩⟩
      | ret =>
        obtain ⟨hr, hl3, hl4, hk4⟩ := fin (some .ret) W3 hp.1
        exact ⟨_, _, hr, .inr ⟨rfl, .ret, (hIx _).putObj _ hp.2 (by omega) hl3 rfl, hl4, hk4⟩⟩
      | exit id =>
        obtain ⟨hr, hl3, hl4, hk4⟩ := fin (some (.exit id)) W3 hp.1
        exact ⟨_, _, hr, .inr ⟨rfl, .exit id, (hIx _).putObj _ hp.2 (by omega) hl3 rfl, hl4, hk4⟩⟩
      | goto t =>
        obtain ⟨hr, hl3, hl4, hk4⟩ := fin (some (.goto t)) W3 hp.1
        exact ⟨_, _, hr, .inr ⟨rfl, .goto t, (hIx _).putObj _ hp.2 (by omega) hl3 rfl, hl4, hk4⟩⟩
      | panic ch => exact hp.elim
      | outgrown => exact hp.elim
    · rintro e W2 ⟨⟨v, rfl⟩, (⟨hi, hl, hd⟩ | ⟨k, hk, c, hi, hl, hd⟩)⟩
      · exact ⟨none, _, by have := run_endLoop (P := P) hl (by rw [hrec]; simp); rw [hrec] at this; exact this, hdone _ _ (Nat.le_refl _) (hI.putObj _ hi (by omega) hl rfl) ((World.putObj_heap_other (by omega)).trans hd)⟩
      · exact ⟨some c, _, by have := run_endLoop (P := P) hl (by rw [hrec]; simp); rw [hrec] at this; exact this, hstop _ c k _ (Nat.le_refl _) hk ((hIx c).putObj _ hi (by omega) hl rfl) ((World.putObj_heap_other (by omega)).trans hd)⟩

/-- How the body of a function that holds such a loop may be left. -/
def marked (P : Program) (fn : Func) (E : Ending → World → Prop) : Exit → Act → World → Prop
  | .normal, a, w => LeavesInM Fence.wide 3 P fn a.tmps E a.defers .returning w
  | .ret, a, w => LeavesInM Fence.wide 3 P fn a.tmps E a.defers .returning w
  | .panic _, _, _ => False
  | .exit _, _, _ => False
  | .goto _, _, _ => False
  | .outgrown, _, _ => False

theorem calls_of_marks {P : Program} {f : FuncId} {fn : Func} {c : Code} {args : Array Value} {w : World} {E : Ending → World → Prop}
    (hf : P.funcs[f]? = some fn) (hb : fn.body = some c) (h : c.wp P (marked P fn E) { tmps := args ++ Array.replicate (fn.ntmps - args.size) undef, defers := [] } w) : Calls P f args w E := by
  refine (callsIn_wide (n := 3)).1 (callsIn_of_wp_marks hf hb trivial (wpIn_wide.2 (wp_mono h ?_)) rfl)
  intro e a w hq
  cases e with
  | normal => exact hq
  | ret => exact hq
  | panic c => exact hq.elim
  | exit id => exact hq.elim
  | goto t => exact hq.elim
  | outgrown => exact hq.elim

/-- The same, for the plain walk. -/
theorem range_plain {P : Program} {g : Operand} {ps : Array Tmp} {assign body : Code} {Q : Exit → Act → World → Prop} {a : Act} {w : World}
    {gf : Nat} {lb : Array Value} (hg : a.eval g = .func (.func gf) #[] lb) (eg : ∀ args w, (callFunc gf args).run P w = .ok (.enter gf args) w)
    {N : Nat} {args : Nat → Array Value} {Know : Nat → World → Prop} (hseq : Hands P gf lb N args Know) (hps : ∀ k, (args k).size = ps.size)
    (I : Nat → World → Prop) (Ix : Code → Nat → World → Prop) (hI : OwnFrom w.heap.size I) (hIx : ∀ c, OwnFrom w.heap.size (Ix c)) (hKn : ∀ k W, I k W → Know k W) (h0 : I 0 w) (a₁ : Nat → Act)
    (hassign : ∀ (l k : Nat) (W : World) (K : Act → World → Prop), k < N → K (a₁ k) W →
      assign.wpIn (Fence.wide.inRound l) 1 P (Exit.then K (fun _ _ _ => False)) { tmps := (ps.zip (args k)).foldl (fun t (p, v) => t.setIfInBounds p v) a.tmps, defers := [] } W)
    (hbody : ∀ (l k : Nat) (W : World), k < N → I k W → body.wpIn (Fence.wide.inRound l) 1 P (roundPost w.heap.size I Ix k W) (a₁ k) W)
    (hdone : ∀ (D : Nat) (W : World), w.heap.size ≤ D → I N W → W.heap[D]? = some (.deferred (some [])) → Q .normal { a with defers := { target := .collected D, args := #[] } :: a.defers } W)
    (hstop : ∀ (D : Nat) (c : Code) (k : Nat) (W : World), w.heap.size ≤ D → k < N → Ix c k W → W.heap[D]? = some (.deferred (some [])) → c.wp P Q { a with defers := { target := .collected D, args := #[] } :: a.defers } W) :
    (Code.rangeFunc g ps assign body).wp P Q a w :=
  wpIn_wide.1 (range_known hg eg hseq hps I Ix hI hIx hKn h0 a₁ hassign hbody hdone (fun D c k W h1 h2 h3 h4 => wpIn_wide.2 (hstop D c k W h1 h2 h3 h4)))

end Go.Proofs.YtkdhcpfmlelfcaaDoor

/- Numbers as lists of digits to a base, the lowest first: what a list is worth, lists without noughts at their end, and that these are one for each number. -/
namespace Go.Proofs.YtkdhcpfmlelfcaaDoor
set_option linter.unusedVariables false
set_option linter.unusedSimpArgs false

/-- What a list of digits is worth, the lowest first. -/
def val (B : Nat) : List Nat → Nat
  | [] => 0
  | x :: r => x + B * val B r

/-- The digit at a place; 0 beyond the end. -/
def nth (xs : List Nat) (i : Nat) : Nat := xs[i]?.getD 0
theorem nth_eq {xs : List Nat} {i : Nat} (h : i < xs.length) : nth xs i = xs[i] := by simp [nth, h]
theorem nth_ge {xs : List Nat} {i : Nat} (h : xs.length ≤ i) : nth xs i = 0 := by simp [nth, h]
theorem nth_take {xs : List Nat} {i n : Nat} (h : i < n) : nth (xs.take n) i = nth xs i := by unfold nth; rw [List.getElem?_take, if_pos h]
theorem nth_drop (xs : List Nat) (n i : Nat) : nth (xs.drop n) i = nth xs (n + i) := by unfold nth; rw [List.getElem?_drop]
theorem nth_set_same {xs : List Nat} {i : Nat} (h : i < xs.length) (v : Nat) : nth (xs.set i v) i = v := by simp [nth, h]
theorem nth_set_other (xs : List Nat) {i j : Nat} (h : i ≠ j) (v : Nat) : nth (xs.set i v) j = nth xs j := by simp [nth, h]

def Small (B : Nat) (xs : List Nat) : Prop := ∀ x ∈ xs, x < B

/-- How many digits are left without the noughts at the end. -/
def tl : List Nat → Nat
  | [] => 0
  | x :: r => if tl r = 0 then (if x = 0 then 0 else 1) else tl r + 1

def trm (xs : List Nat) : List Nat := xs.take (tl xs)

def Canon (B : Nat) (xs : List Nat) : Prop := Small B xs ∧ tl xs = xs.length

theorem val_nil (B : Nat) : val B [] = 0 := rfl
theorem val_cons (B x : Nat) (r : List Nat) : val B (x :: r) = x + B * val B r := rfl

theorem val_append (B : Nat) (xs ys : List Nat) : val B (xs ++ ys) = val B xs + B ^ xs.length * val B ys := by
  induction xs with
  | nil => simp [val]
  | cons x r ih =>
    rw [List.cons_append, val_cons, ih, val_cons, List.length_cons, Nat.pow_succ, Nat.mul_add, Nat.mul_comm (B ^ r.length) B, Nat.mul_assoc, Nat.add_assoc]

theorem val_lt {B : Nat} {xs : List Nat} (h : Small B xs) : val B xs < B ^ xs.length := by
  induction xs with
  | nil => simp [val]
  | cons x r ih =>
    have hx : x < B := h x (by simp)
    have hr : val B r < B ^ r.length := ih (fun y hy => h y (by simp [hy]))
    have : B * (val B r + 1) ≤ B * B ^ r.length := Nat.mul_le_mul_left B hr
    simp only [val_cons, List.length_cons, Nat.pow_succ, Nat.mul_comm (B ^ r.length) B]
    rw [Nat.mul_add] at this
    omega

theorem val_replicate (B n : Nat) : val B (List.replicate n 0) = 0 := by
  induction n with
  | zero => rfl
  | succ n ih => simp [List.replicate_succ, val_cons, ih]

theorem tl_le (xs : List Nat) : tl xs ≤ xs.length := by
  induction xs with
  | nil => simp [tl]
  | cons x r ih =>
    simp only [tl, List.length_cons]
    by_cases h : tl r = 0
    · rw [if_pos h]; split <;> omega
    · rw [if_neg h]; omega

theorem tl_zero_iff (xs : List Nat) : tl xs = 0 ↔ ∀ x ∈ xs, x = 0 := by
  induction xs with
  | nil => simp [tl]
  | cons x r ih =>
    simp only [tl, List.forall_mem_cons]
    by_cases h : tl r = 0
    · rw [if_pos h]
      by_cases hx : x = 0
      · simp only [hx, if_true, true_and, true_iff]; exact ih.1 h
      · simp [hx]
    · rw [if_neg h]
      constructor
      · intro h'; omega
      · intro h'; exact absurd (ih.2 h'.2) h

theorem val_of_zeros (B : Nat) {xs : List Nat} (h : ∀ x ∈ xs, x = 0) : val B xs = 0 := by
  induction xs with
  | nil => rfl
  | cons x r ih => rw [val_cons, h x (by simp), ih (fun y hy => h y (by simp [hy]))]; simp

theorem val_trm (B : Nat) (xs : List Nat) : val B (trm xs) = val B xs := by
  induction xs with
  | nil => simp [trm, tl]
  | cons x r ih =>
    unfold trm at ih ⊢
    simp only [tl]
    by_cases h : tl r = 0
    · have hz := val_of_zeros B ((tl_zero_iff r).1 h)
      rw [if_pos h]
      by_cases hx : x = 0
      · simp [hx, val_cons, hz, val_nil]
      · simp [hx, val_cons, hz, val_nil]
    · rw [if_neg h, List.take_succ_cons, val_cons, val_cons, ih]

theorem Small.nth {B : Nat} {xs : List Nat} (h : Small B xs) (hB : 0 < B) (i : Nat) : nth xs i < B := by
  by_cases hi : i < xs.length
  · rw [nth_eq hi]; exact h _ (List.getElem_mem hi)
  · rw [nth_ge (by omega)]; exact hB
theorem Small.set {B : Nat} {xs : List Nat} (h : Small B xs) (i v : Nat) (hv : v < B) : Small B (xs.set i v) := fun x hx => by
  rcases List.mem_or_eq_of_mem_set hx with h1 | h1
  · exact h x h1
  · subst h1; exact hv
theorem Small.take {B : Nat} {xs : List Nat} (h : Small B xs) (n : Nat) : Small B (xs.take n) := fun x hx => h x (List.mem_of_mem_take hx)
theorem Small.drop {B : Nat} {xs : List Nat} (h : Small B xs) (n : Nat) : Small B (xs.drop n) := fun x hx => h x (List.mem_of_mem_drop hx)
theorem Small.append {B : Nat} {xs ys : List Nat} (h : Small B xs) (k : Small B ys) : Small B (xs ++ ys) := fun x hx => (List.mem_append.1 hx).elim (h x) (k x)
theorem Small.trm {B : Nat} {xs : List Nat} (h : Small B xs) : Small B (trm xs) := h.take _
theorem Small.nil (B : Nat) : Small B [] := fun x hx => by simp at hx

theorem tl_trm (xs : List Nat) : tl (trm xs) = (trm xs).length := by
  have : ∀ xs : List Nat, tl (xs.take (tl xs)) = tl xs := by
    intro xs
    induction xs with
    | nil => rfl
    | cons x r ih =>
      by_cases h : tl r = 0
      · by_cases hx : x = 0
        · simp [tl, h, hx]
        · simp [tl, h, hx]
      · have e : tl (x :: r) = tl r + 1 := by simp [tl, h]
        rw [e, List.take_succ_cons]
        simp only [tl]
        rw [ih, if_neg h]
  unfold trm
  rw [this, List.length_take, Nat.min_eq_left (tl_le xs)]

theorem trm_length (xs : List Nat) : (trm xs).length = tl xs := by
  unfold trm; rw [List.length_take, Nat.min_eq_left (tl_le xs)]

theorem canon_trm {B : Nat} {xs : List Nat} (h : Small B xs) : Canon B (trm xs) := ⟨h.trm, tl_trm xs⟩

theorem canon_nil (B : Nat) : Canon B [] := ⟨Small.nil B, rfl⟩

theorem Canon.tail {B x : Nat} {r : List Nat} (h : Canon B (x :: r)) : Canon B r := by
  refine ⟨fun y hy => h.1 y (by simp [hy]), ?_⟩
  have h2 := h.2
  simp only [tl, List.length_cons] at h2
  by_cases hz : tl r = 0
  · rw [if_pos hz] at h2
    have := tl_le r
    split at h2 <;> omega
  · rw [if_neg hz] at h2; omega

theorem Canon.val_zero {B : Nat} {xs : List Nat} (hB : 0 < B) (h : Canon B xs) (hv : val B xs = 0) : xs = [] := by
  induction xs with
  | nil => rfl
  | cons x r ih =>
    rw [val_cons] at hv
    have h1 : val B r = 0 := by
      rcases Nat.eq_zero_or_pos (val B r) with h0 | h0
      · exact h0
      · have := Nat.mul_pos hB h0; omega
    have h2 := ih h.tail h1
    subst h2
    have h3 := h.2
    simp [tl] at h3
    omega

/-- One list for each number. -/
theorem Canon.unique {B : Nat} {xs ys : List Nat} (hB : 0 < B) (hx : Canon B xs) (hy : Canon B ys) (h : val B xs = val B ys) : xs = ys := by
  induction xs generalizing ys with
  | nil => exact (hy.val_zero hB (by rw [← h]; rfl)).symm
  | cons x r ih =>
    cases ys with
    | nil => exact hx.val_zero hB (by rw [h]; rfl)
    | cons y s =>
      rw [val_cons, val_cons] at h
      have h1 : x < B := hx.1 x (by simp)
      have h2 : y < B := hy.1 y (by simp)
      have h3 : x = y := by
        have := congrArg (· % B) h
        simpa [Nat.add_mul_mod_self_left, Nat.mod_eq_of_lt h1, Nat.mod_eq_of_lt h2] using this
      subst h3
      have h4 : val B r = val B s := Nat.eq_of_mul_eq_mul_left hB (by omega)
      rw [ih hx.tail hy.tail h4]

theorem canon_len_lt {B : Nat} {xs ys : List Nat} (hB : 0 < B) (hx : Small B xs) (hy : Canon B ys) (h : xs.length < ys.length) : val B xs < val B ys := by
  have h1 := val_lt hx
  have h2 : B ^ (ys.length - 1) ≤ val B ys := by
    have : ∀ zs : List Nat, tl zs = zs.length → zs ≠ [] → B ^ (zs.length - 1) ≤ val B zs := by
      intro zs
      induction zs with
      | nil => intro _ h; exact absurd rfl h
      | cons z r ih =>
        intro ht _
        cases r with
        | nil => simp [tl] at ht; simp [val]; omega
        | cons y s =>
          have ht' : tl (y :: s) = (y :: s).length := by
            have hle := tl_le (y :: s)
            generalize hq : (y :: s : List Nat) = q at *
            have hql : 0 < q.length := by rw [← hq]; simp
            simp only [tl, List.length_cons] at ht
            by_cases hz : tl q = 0
            · rw [if_pos hz] at ht
              by_cases hz2 : z = 0
              · rw [if_pos hz2] at ht; omega
              · rw [if_neg hz2] at ht; omega
            · rw [if_neg hz] at ht; omega
          have := ih ht' (by simp)
          simp only [List.length_cons, Nat.add_sub_cancel] at this ⊢
          rw [val_cons, Nat.pow_succ]
          have := Nat.mul_le_mul_left B this
          rw [Nat.mul_comm (B ^ s.length) B]
          omega
    exact this ys hy.2 (by intro e; subst e; simp at h)
  have h3 : B ^ xs.length ≤ B ^ (ys.length - 1) := Nat.pow_le_pow_right hB (by omega)
  omega

/-- The highest digit that differs decides. -/
theorem val_take_succ (B : Nat) (xs : List Nat) (k : Nat) (h : k < xs.length) : val B (xs.take (k + 1)) = val B (xs.take k) + B ^ k * xs[k] := by
  rw [List.take_succ_eq_append_getElem h, val_append, val_cons, val_nil]
  simp [Nat.min_eq_left (Nat.le_of_lt h)]

theorem val_split (B : Nat) (xs : List Nat) (k : Nat) (h : k ≤ xs.length) : val B xs = val B (xs.take k) + B ^ k * val B (xs.drop k) := by
  have := val_append B (xs.take k) (xs.drop k)
  rw [List.take_append_drop, List.length_take, Nat.min_eq_left h] at this
  exact this

theorem lt_of_top {B : Nat} {xs ys : List Nat} (hx : Small B xs) (k : Nat) (h1 : k < xs.length) (h2 : k < ys.length) (hd : xs.drop (k + 1) = ys.drop (k + 1)) (hk : xs[k] < ys[k]) : val B xs < val B ys := by
  rw [val_split B xs (k + 1) h1, val_split B ys (k + 1) h2, hd, val_take_succ B xs k h1, val_take_succ B ys k h2]
  have h3 := val_lt (hx.take k)
  rw [List.length_take, Nat.min_eq_left (Nat.le_of_lt h1)] at h3
  have h4 : B ^ k * (xs[k] + 1) ≤ B ^ k * ys[k] := Nat.mul_le_mul_left _ hk
  rw [Nat.mul_add] at h4
  omega

theorem tl_of_top (xs : List Nat) (i : Nat) (h : i < xs.length) (h1 : xs[i] ≠ 0) (h2 : ∀ x ∈ xs.drop (i + 1), x = 0) : tl xs = i + 1 := by
  induction xs generalizing i with
  | nil => simp at h
  | cons x r ih =>
    cases i with
    | zero =>
      have : tl r = 0 := (tl_zero_iff r).2 (by simpa using h2)
      simp at h1
      simp [tl, this, h1]
    | succ i =>
      have := ih i (by simpa using h) (by simpa using h1) (by simpa using h2)
      simp [tl, this]

theorem val_take_nth (B : Nat) (xs : List Nat) (k : Nat) : val B (xs.take (k + 1)) = val B (xs.take k) + B ^ k * nth xs k := by
  by_cases h : k < xs.length
  · rw [val_take_succ B xs k h, nth_eq h]
  · rw [nth_ge (by omega), List.take_of_length_le (by omega), List.take_of_length_le (by omega)]; simp

theorem val_snoc (B : Nat) (xs : List Nat) (v : Nat) : val B (xs ++ [v]) = val B xs + B ^ xs.length * v := by rw [val_append, val_cons, val_nil]; simp

theorem set_mid (xs : List Nat) (z : Nat) (m v : Nat) (hm : 0 < m) : (xs ++ List.replicate m z).set xs.length v = (xs ++ [v]) ++ List.replicate (m - 1) z := by
  obtain ⟨m', rfl⟩ : ∃ m', m = m' + 1 := ⟨m - 1, by omega⟩
  rw [List.replicate_succ, List.set_append_right _ _ (Nat.le_refl _)]
  simp

/-- One step of a sum with a carry. -/
theorem carry_step {B P X Y c s x y : Nat} (h : s + P * c = X + Y) : s + P * ((x + y + c) % B) + P * B * ((x + y + c) / B) = (X + P * x) + (Y + P * y) := by
  have h1 : P * ((x + y + c) % B) + P * B * ((x + y + c) / B) = P * (x + y + c) := by
    rw [Nat.mul_assoc, ← Nat.mul_add, Nat.mod_add_div]
  rw [Nat.add_assoc, h1, Nat.mul_add, Nat.mul_add]
  omega

theorem val_set (B : Nat) (zs : List Nat) (k v : Nat) (h : k < zs.length) : val B (zs.set k v) + B ^ k * nth zs k = val B zs + B ^ k * v := by
  have e : zs.set k v = zs.take k ++ v :: zs.drop (k + 1) := List.set_eq_take_append_cons_drop.trans (if_pos h)
  have e2 : zs = zs.take k ++ nth zs k :: zs.drop (k + 1) := by rw [nth_eq h]; simp
  have hl : (zs.take k).length = k := by simp; omega
  generalize nth zs k = u at *
  rw [e]
  conv => rhs; rw [e2]
  rw [val_append, val_append, hl, val_cons, val_cons, Nat.mul_add, Nat.mul_add]
  omega

end Go.Proofs.YtkdhcpfmlelfcaaDoor

/- The iterator fromTop hands over a slice's numbers, the last one first, to whatever round keeps the slice and the numbers that are still to come. -/
namespace Go.Proofs.YtkdhcpfmlelfcaaDoor
set_option linter.unusedVariables false
set_option linter.unusedSimpArgs false
open Go Go.RowKit Go.Shelf

attribute [local go_sem] Oper.semAt_some

/-- What fromTop reads ahead of round k: its box, and the cell that is next. -/
def TopKnow (Bs : Nat) (ao : Option Addr) (len cap : Nat) (v : Nat → Int) (k : Nat) (W : World) : Prop :=
  W.cell? ⟨Bs, 0, none⟩ = some (.slice ao len cap) ∧ (k < len → ∃ b off, ao = some ⟨b, off, none⟩ ∧ W.cell? ⟨b, off + (len - 1 - k), none⟩ = some (.int .u32 (v k)))

set_option maxRecDepth 100000 in
set_option maxHeartbeats 1000000 in
theorem top_hands (Bs : Nat) (ao : Option Addr) (len cap : Nat) (v : Nat → Int) (hlen : len ≤ 4611686018427387904) :
    Hands Tryd.prog 77 #[.pointer (some ⟨Bs, 0, none⟩)] len (fun k => #[.int .i64 ((len : Int) - 1 - k), .int .u32 (v k)]) (TopKnow Bs ao len cap v) := by
  intro l J Jx W hKn hY h0
  refine callsIn_of_wp Tryd.func77 rfl trivial ?_ rfl
  simp only [Tryd.ntmps77, List.size_toArray, List.length_cons, List.length_nil, Nat.reduceAdd, Nat.reduceSub, Array.replicate_succ, Array.replicate_zero, List.push_toArray, List.append_toArray, List.nil_append, List.cons_append]
  have hb0 := (hKn 0 W h0).1
  gi_wp2
  gi_loopw [3] (fun i wr => ∃ k : Nat, k ≤ len ∧ i = .int .i64 ((len : Int) - 1 - k) ∧ J k wr) (fun i _ => ((intOf i) + 1).toNat)
  case atStart => exact ⟨0, Nat.zero_le _, by simp, h0⟩
  case round =>
    obtain ⟨k, hk, rfl, hJ⟩ := hrel
    obtain ⟨hbx, hcell⟩ := hKn k _ hJ
    by_cases hlt : k < len
    · obtain ⟨b, off, rfl, hc⟩ := hcell hlt
      obtain ⟨fn, tmps, assign, body, hy, hR⟩ := hY k _ hlt hJ
      clear hcell
      gi_wp2
      refine hR.mono ?_
      rintro e W3 (⟨rfl, hJ3⟩ | ⟨rfl, hJx3⟩)
      · gi_wp2
        go_roundw
        case rel => exact ⟨k + 1, by omega, by go_num, hJ3⟩
        case measure => simp [intOf]; omega
      · gi_wp2
        refine bodyPost_ret (results_none rfl _ _ _) rfl ?_
        exact ⟨⟨_, rfl⟩, .inr ⟨k, hlt, hJx3⟩⟩
    · obtain rfl : k = len := by omega
      gi_wp2
      go_end0
      exact ⟨⟨_, rfl⟩, .inl hJ⟩

set_option maxHeartbeats 1000000 in
theorem fromTop_calls (sv : Value) (w : World) (hsv : ∃ a len cap, sv = .slice a len cap) :
    Calls Tryd.prog 60 #[sv] w fun e w' => e = .returned (.func (.func 77) #[] #[.pointer (some ⟨w.heap.size, 0, none⟩)]) ∧ w' = w.alloc (.cells #[sv] 22) := by
  obtain ⟨a, len, cap, rfl⟩ := hsv
  go_enter Tryd.func60, Tryd.ntmps60
  go_wp2
  go_ret
  exact ⟨rfl, rfl⟩

end Go.Proofs.YtkdhcpfmlelfcaaDoor

/- What it means that a slice of 32-bit numbers in memory is a list of digits; and the contract of trim: it cuts off the noughts at the end. -/
namespace Go.Proofs.YtkdhcpfmlelfcaaDoor
set_option linter.unusedVariables false
set_option linter.unusedSimpArgs false
open Go Go.RowKit Go.Shelf

attribute [local go_sem] Oper.semAt_some

/-- The base of a limb. -/
def R : Nat := 4294967296
theorem R_eq : R = 4294967296 := rfl

/-- The slice value sv holds the limbs zs. -/
def Limbs (W : World) (sv : Value) (zs : List Nat) : Prop :=
  ∃ ao cap, sv = .slice ao zs.length cap ∧ zs.length ≤ cap ∧ zs.length ≤ 70368744177664 ∧ Small R zs ∧ ∀ j, j < zs.length → ∃ b off, ao = some ⟨b, off, none⟩ ∧ W.cell? ⟨b, off + j, none⟩ = some (.int .u32 ((nth zs j : Nat) : Int))

theorem Limbs.below {W W' : World} {sv : Value} {zs : List Nat} (h : Limbs W sv zs) (hb : Below W.heap.size W W') : Limbs W' sv zs := by
  obtain ⟨ao, cap, rfl, h1, h2, h3, h4⟩ := h
  refine ⟨ao, cap, rfl, h1, h2, h3, fun j hj => ?_⟩
  obtain ⟨b, off, e, hc⟩ := h4 j hj
  exact ⟨b, off, e, (hb.cell (p := ⟨b, off + j, none⟩) (block_lt_of_cell hc)).trans hc⟩

theorem Limbs.nil (W : World) : Limbs W (.slice none 0 0) [] := ⟨none, 0, rfl, Nat.le_refl _, by simp, Small.nil _, fun j hj => by simp at hj⟩

/-- What trim hands back. -/
def trimmed (ao : Option Addr) (cap : Nat) (zs : List Nat) : Value := if tl zs = 0 then .slice none 0 0 else .slice ao (tl zs) cap

theorem trm_nil_of {zs : List Nat} (h : tl zs = 0) : trm zs = [] := by unfold trm; rw [h]; rfl

theorem Limbs.trimmed {W : World} {ao : Option Addr} {n cap : Nat} {zs : List Nat} (h : Limbs W (.slice ao n cap) zs) : Limbs W (trimmed ao cap zs) (trm zs) := by
  obtain ⟨ao', cap', e, h1, h2, h3, h4⟩ := h
  cases e
  unfold Proofs.YtkdhcpfmlelfcaaDoor.trimmed
  by_cases hz : tl zs = 0
  · rw [if_pos hz, trm_nil_of hz]; exact Limbs.nil W
  · rw [if_neg hz]
    have := tl_le zs
    refine ⟨ao, cap, by rw [trm_length], by rw [trm_length]; omega, by rw [trm_length]; omega, h3.trm, fun j hj => ?_⟩
    rw [trm_length] at hj
    obtain ⟨b, off, e, hc⟩ := h4 j (by omega)
    refine ⟨b, off, e, ?_⟩
    rw [hc]
    unfold trm
    rw [nth_take hj]

theorem drop_zero_step {zs : List Nat} {k : Nat} (hk : k < zs.length) (h : ∀ x ∈ zs.drop (zs.length - k), x = 0) (hz : nth zs (zs.length - 1 - k) = 0) : ∀ x ∈ zs.drop (zs.length - (k + 1)), x = 0 := by
  have e : zs.drop (zs.length - (k + 1)) = zs[zs.length - 1 - k] :: zs.drop (zs.length - k) := by
    rw [List.drop_eq_getElem_cons (by omega)]
    simp only [show zs.length - (k + 1) = zs.length - 1 - k from by omega, show zs.length - 1 - k + 1 = zs.length - k from by omega]
  rw [e]
  intro x hx
  rcases List.mem_cons.1 hx with rfl | hx
  · rw [nth_eq (by omega)] at hz; exact hz
  · exact h x hx

theorem hide {p : Prop} (h : p) : Hid p := h

theorem own_boxed (B : Nat) (t : TypeId) (v : Value) (C : Nat) : OwnFrom C (fun (_ : Nat) W => Boxed W B t v) := Own.from (boxed_own B t (fun _ => v)) C

set_option maxRecDepth 100000 in
set_option maxHeartbeats 2000000 in
theorem trim_calls (w : World) (ao : Option Addr) (cap : Nat) (zs : List Nat) (h : Limbs w (.slice ao zs.length cap) zs) :
    Calls Tryd.prog 47 #[.slice ao zs.length cap] w fun e w' => e = .returned (trimmed ao cap zs) ∧ Below w.heap.size w w' := by
  obtain ⟨ao', cap', e, h1, h2, h3, h4⟩ := id h
  cases e
  refine (callsIn_wide (n := 3)).1 ?_
  refine callsIn_of_wp_marks Tryd.func47 rfl trivial ?_ rfl
  simp only [Tryd.ntmps47, List.size_toArray, List.length_cons, List.length_nil, Nat.reduceAdd, Nat.reduceSub, Array.replicate_succ, Array.replicate_zero, List.push_toArray, List.append_toArray, List.nil_append, List.cons_append]
  gi_wp2_with (refine ⟨trivial, ?_⟩; gi_at_call 60; refine (callsIn_wide.2 (fromTop_calls _ _ ⟨_, _, _, rfl⟩)).mono ?_; rintro e w' ⟨rfl, rfl⟩)
  have b0 := Boxed.new w 22 (.slice ao zs.length cap)
  have b1 := Boxed.new (w.alloc (.cells #[.slice ao zs.length cap] 22)) 22 (.slice none 0 0)
  have b2 := Boxed.new ((w.alloc (.cells #[.slice ao zs.length cap] 22)).alloc (.cells #[.slice none 0 0] 22)) 22 (.slice ao zs.length cap)
  simp only [World.size_alloc] at b1 b2
  have hB0 : Below w.heap.size w (((w.alloc (.cells #[.slice ao zs.length cap] 22)).alloc (.cells #[.slice none 0 0] 22)).alloc (.cells #[.slice ao zs.length cap] 22)) :=
    (((Below.refl _ w).alloc (Nat.le_refl _) _).alloc (by simp) _).alloc (by simp; omega) _
  refine range_known (gf := 77) (lb := #[.pointer (some ⟨w.heap.size + 1 + 1, 0, none⟩)]) rfl (enters_of Tryd.func77 (by kernel_rfl) rfl)
    (top_hands (w.heap.size + 1 + 1) ao zs.length cap (fun k => ((nth zs (zs.length - 1 - k) : Nat) : Int)) (by omega)) (fun _ => rfl)
    (fun k W => (Boxed W w.heap.size 22 (.slice ao zs.length cap) ∧ Boxed W (w.heap.size + 1) 22 (.slice none 0 0) ∧ Boxed W (w.heap.size + 1 + 1) 22 (.slice ao zs.length cap) ∧ (∀ x ∈ zs.drop (zs.length - k), x = 0)) ∧ Below w.heap.size w W)
    (fun c k W => (c = .ret ∧ Boxed W (w.heap.size + 1) 22 (trimmed ao cap zs)) ∧ Below w.heap.size w W)
    (OwnFrom.and (OwnFrom.and (own_boxed _ _ _ _) (OwnFrom.and (own_boxed _ _ _ _) (OwnFrom.and (own_boxed _ _ _ _) (ownFrom_pure _ _)))) (ownFrom_below (Nat.le_refl _) (by simp; omega)))
    (fun c => OwnFrom.and (OwnFrom.and (ownFrom_pure _ _) (own_boxed _ _ _ _)) (ownFrom_below (Nat.le_refl _) (by simp; omega)))
    ?know ⟨⟨(b0.alloc _).alloc _, b1.alloc _, b2, by simp⟩, hB0⟩
    (fun k => { tmps := #[.slice ao zs.length cap, .pointer (some ⟨w.heap.size, 0, none⟩), .pointer (some ⟨w.heap.size + 1, 0, none⟩), .int .i64 ((zs.length : Int) - 1 - k), .int .u32 ((nth zs (zs.length - 1 - k) : Nat) : Int), .slice ao zs.length cap, .func (.func 77) #[] #[.pointer (some ⟨w.heap.size + 1 + 1, 0, none⟩)], .int .i64 ((zs.length : Int) - 1 - k), .int .u32 ((nth zs (zs.length - 1 - k) : Nat) : Int), undef, undef, undef, undef, undef, undef], defers := [] }) ?assign ?body ?done ?stop
  case know =>
    rintro k W ⟨⟨_, _, hb, _⟩, hB⟩
    refine ⟨hb.cell, fun hk => ?_⟩
    obtain ⟨b, off, e, hc⟩ := h4 (zs.length - 1 - k) (by omega)
    exact ⟨b, off, e, (hB.cell (p := ⟨b, off + (zs.length - 1 - k), none⟩) (block_lt_of_cell hc)).trans hc⟩
  case assign =>
    intro l k W K hk hK
    gi_wp2
    exact hK
  case body =>
    rintro l k W hk ⟨⟨hb0, hb1, hb2, hz⟩, hB⟩
    have c0 := hb0.cell
    have c1 := hb1.cell
    have f1 := hb1.frozen
    by_cases hv : nth zs (zs.length - 1 - k) = 0
    · have hv' : (((nth zs (zs.length - 1 - k) : Nat) : Int) != 0) = false := by simp [hv]
      have Hv := hide hv
      clear hv
      gi_wp2
      exact ⟨KeepsFrom.refl _ _, ⟨hb0, hb1, hb2, drop_zero_step hk hz Hv.out⟩, hB⟩
    · have hv' : (((nth zs (zs.length - 1 - k) : Nat) : Int) != 0) = true := by simp; omega
      have ht : tl zs = zs.length - 1 - k + 1 := tl_of_top zs (zs.length - 1 - k) (by omega) (by rw [nth_eq (by omega)] at hv; exact hv) (by rw [show zs.length - 1 - k + 1 = zs.length - k from by omega]; exact hz)
      have Ht : Hid (trimmed ao cap zs = .slice ao (zs.length - 1 - k + 1) cap) := by unfold trimmed; rw [ht, if_neg (by omega)]; rfl
      clear ht hv
      gi_wp2
      exact ⟨(KeepsOthers.setCell _ _ _).from _, ⟨rfl, by rw [Ht.out]; exact hb1.set _⟩, hB.setCell (p := ⟨w.heap.size + 1, 0, none⟩) (by simp) _⟩
  case done =>
    rintro D W hD ⟨⟨hb0, hb1, hb2, hz⟩, hB⟩ hK
    have c1 := hb1.cell
    have f1 := hb1.frozen
    have ht : Hid (trimmed ao cap zs = .slice none 0 0) := by
      unfold trimmed
      rw [if_pos ((tl_zero_iff zs).2 (by simpa using hz))]
      rfl
    gi_wp2
    have hb3 := hb1.set (.slice none 0 0)
    have hK' := (KeepsOthers.setCell W ⟨w.heap.size + 1, 0, none⟩ (.slice none 0 0)).same D _ hK rfl
    refine ⟨by simp, .inl ⟨_, _, rfl, run_takeDeferred hK', ?_⟩⟩
    have hc5 := cell_kept hb3.cell (grownBy_putObj' _ D (.deferred none)) (fun r e => by cases e; exact ⟨_, hK', rfl⟩)
    refine ⟨.slice none 0 0, ?_, by rw [ht.out], (hB.setCell (p := ⟨w.heap.size + 1, 0, none⟩) (by simp) _).trans (belowK_b (w := w) (Nat.le_refl _) _ D _ _ (by simp at hD; omega) hK' rfl rfl)⟩
    simp [results, Tryd.f47, go_sem, hc5]
  case stop =>
    rintro D c k W hD hk ⟨⟨rfl, hb1⟩, hB⟩ hK
    obtain ⟨tv, htv⟩ : ∃ tv, tv = trimmed ao cap zs := ⟨_, rfl⟩
    rw [← htv] at hb1
    have hsl : ∃ a n c, tv = .slice a n c := by
      rw [htv]; unfold trimmed; split
      · exact ⟨_, _, _, rfl⟩
      · exact ⟨_, _, _, rfl⟩
    obtain ⟨a, n, c, rfl⟩ := hsl
    have Ht := hide htv
    clear htv
    gi_wp2
    refine ⟨by simp, .inl ⟨_, _, rfl, run_takeDeferred hK, ?_⟩⟩
    have hc5 := cell_kept hb1.cell (grownBy_putObj' _ D (.deferred none)) (fun r e => by cases e; exact ⟨_, hK, rfl⟩)
    refine ⟨.slice a n c, ?_, by rw [Ht.out], hB.trans (belowK_b (w := w) (Nat.le_refl _) W D _ _ (by simp at hD; omega) hK rfl rfl)⟩
    simp [results, Tryd.f47, go_sem, hc5]

theorem trim_calls' (w : World) (ao : Option Addr) (n cap : Nat) (zs : List Nat) (hn : zs.length = n) (h : Limbs w (.slice ao n cap) zs) :
    Calls Tryd.prog 47 #[.slice ao n cap] w fun e w' => e = .returned (trimmed ao cap zs) ∧ Below w.heap.size w w' := by
  subst hn
  exact trim_calls w ao cap zs h

theorem trimmed_form (ao : Option Addr) (cap : Nat) (zs : List Nat) : ∃ bo dap, trimmed ao cap zs = .slice bo (trm zs).length dap := by
  unfold trimmed
  by_cases h : tl zs = 0
  · rw [if_pos h, trm_nil_of h]; exact ⟨_, _, rfl⟩
  · rw [if_neg h, trm_length]; exact ⟨_, _, rfl⟩

/-- trim, as callers want it: what it hands back lies where its argument lies. -/
theorem trim_lim (w : World) (sv : Value) (zs : List Nat) (h : Limbs w sv zs) :
    Calls Tryd.prog 47 #[sv] w fun e w' => ∃ ys bo dap, e = .returned (.slice bo ys.length dap) ∧ Limbs w (.slice bo ys.length dap) ys ∧ Canon R ys ∧ Hid (val R ys = val R zs) ∧ ys.length ≤ zs.length ∧ Below w.heap.size w w' := by
  have h' := h
  obtain ⟨ao, cap, rfl, _, _, hs, _⟩ := h'
  refine (trim_calls w ao cap zs h).mono ?_
  rintro e w' ⟨rfl, hb⟩
  have hl := h.trimmed
  obtain ⟨bo, dap, hf⟩ := trimmed_form ao cap zs
  rw [hf] at hl ⊢
  exact ⟨_, _, _, rfl, hl, canon_trm hs, val_trm R zs, by rw [trm_length]; exact tl_le zs, hb⟩

/-- The same, from whatever later world. -/
theorem trim_from (w0 W2 W : World) (h02 : Below w0.heap.size w0 W2) (hW : Below W2.heap.size W2 W) (sv : Value) (zs : List Nat) (h : Limbs w0 sv zs) :
    Calls Tryd.prog 47 #[sv] W fun e w' => ∃ ys bo dap, e = .returned (.slice bo ys.length dap) ∧ Limbs w0 (.slice bo ys.length dap) ys ∧ Canon R ys ∧ Hid (val R ys = val R zs) ∧ ys.length ≤ zs.length ∧ Below W2.heap.size W2 w' := by
  have h' := h
  obtain ⟨ao, cap, rfl, _, _, hs, _⟩ := h'
  refine (trim_calls W ao cap zs (h.below (h02.trans (hW.mono h02.size)))).mono ?_
  rintro e w' ⟨rfl, hb⟩
  have hl := h.trimmed
  obtain ⟨bo, dap, hf⟩ := trimmed_form ao cap zs
  rw [hf] at hl ⊢
  exact ⟨_, _, _, rfl, hl, canon_trm hs, val_trm R zs, by rw [trm_length]; exact tl_le zs, hW.trans (hb.mono hW.size)⟩

end Go.Proofs.YtkdhcpfmlelfcaaDoor
