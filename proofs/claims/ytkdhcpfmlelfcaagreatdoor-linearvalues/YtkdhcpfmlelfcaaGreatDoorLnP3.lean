/- Sums (layer 11), text 3: LnMap, LnBack, LnIsC, LnRangeE, LnEval, LnBind, LnLaw2a, LnVal0. -/
import Derived.Test.YtkdhcpfmlelfcaaGreatDoorLnP1
import Derived.Maps.Keyed
import Derived.Test.YtkdhcpfmlelfcaaGreatDoorLnP2
import Derived.Lib.SmallJoins
import Derived.Laws.OwnMore
namespace Go.Proofs.YtkdhcpfmlelfcaaGreatDoor
set_option linter.unusedVariables false
set_option linter.unusedSimpArgs false
set_option maxRecDepth 100000
open Go Go.RowKit Go.Shelf Go.Lib Go.Maps Go.ChangeShapes Go.WideShapes
open Go.ChangeMaps (modify_eq_set)

def zBig : Value := .agg #[.bool false, .slice none 0 0]
theorem zeroBig (w : World) : (zeroValue 24).run Tryz.prog w = .ok zBig w := by kernel_rfl
theorem keyedI : Keyed Tryz.prog 3 := int_keyed Tryz.underlying3
theorem keyOfI {x : Int} (h : Rng x) : keyOf Tryz.prog 3 (.int .i64 x) = some (.int .i64 x) := keyOf_int_mk Tryz.underlying3 (by
  unfold Rng at h
  simp [Lit.wf, IntKind.min, IntKind.max, IntKind.signed, IntKind.bits]
  omega)
/-- A map's block: its keys are whole numbers, each once. -/
def MapB (W : World) (r : Nat) (f : Int → Option Value) : Prop :=
  ∃ es clock, W.heap[r]? = some (.map es clock) ∧ (∀ e ∈ es.toList, ∃ x, e.key = .int .i64 x ∧ Rng x) ∧ es.toList.Pairwise (fun a b => a.key ≠ b.key) ∧ ∀ x v, f x = some v ↔ ∃ e ∈ es.toList, e.key = .int .i64 x ∧ e.val = v
theorem MapB.made (W : World) : MapB (W.alloc (.map #[] 0)) W.heap.size (fun _ => none) :=
  ⟨#[], 0, World.alloc_heap_new W _, fun e he => by simp at he, by simp, fun x v => by simp⟩
theorem MapB.keep {W W' : World} {r : Nat} {f : Int → Option Value} (h : MapB W r f) (hb : W'.heap[r]? = W.heap[r]?) : MapB W' r f := by
  obtain ⟨es, clock, h1, h2⟩ := h
  exact ⟨es, clock, hb.trans h1, h2⟩
theorem MapB.lt {W : World} {r : Nat} {f : Int → Option Value} (h : MapB W r f) : r < W.heap.size := by
  obtain ⟨es, clock, h1, h2⟩ := h
  exact (Array.getElem?_eq_some_iff.1 h1).1
theorem MapB.keysOf {es : Array MapEntry} (h : ∀ e ∈ es.toList, ∃ x, e.key = .int .i64 x ∧ Rng x) : ∀ e ∈ es.toList, ∃ l, keyOf Tryz.prog 3 e.key = some l := fun e he => by
  obtain ⟨x, e1, h1⟩ := h e he
  exact ⟨_, by rw [e1]; exact keyOfI h1⟩
theorem MapB.look {W : World} {r : Nat} {f : Int → Option Value} (h : MapB W r f) {x : Int} (hx : Rng x) :
    (Instr.lookup 103 (.map (some r)) (.int .i64 x) false).run Tryz.prog W = .ok ((f x).getD zBig) W := by
  obtain ⟨es, clock, h1, h2, h3, h4⟩ := h
  rcases keyedI.find W (keyOfI hx) es.toList (MapB.keysOf h2) with ⟨g1, g2⟩ | ⟨j, e0, g1, g2, g3⟩
  · have hf : f x = none := by
      cases hfx : f x with
      | none => rfl
      | some v =>
        obtain ⟨e, he, e1, _⟩ := (h4 x v).1 hfx
        exact absurd e1 (g2 e he)
    rw [hf]
    simp [Instr.lookup, run_underlying Tryz.underlying103, MapKept.run_getObj_map h1, keyedI.check W _ (keyOfI hx), g1, zeroBig, Result.andThen]
    rfl
  · have hf : f x = some e0.val := (h4 x _).2 ⟨e0, List.mem_of_getElem? g2, g3, rfl⟩
    rw [hf]
    simp [Instr.lookup, run_underlying Tryz.underlying103, MapKept.run_getObj_map h1, keyedI.check W _ (keyOfI hx), g1, Result.andThen]
theorem MapB.put {W : World} {r : Nat} {f : Int → Option Value} (h : MapB W r f) {x : Int} (hx : Rng x) (v : Value) :
    ∃ o, (Instr.mapUpdate 103 (.map (some r)) (.int .i64 x) v).run Tryz.prog W = .ok () (W.putObj r o) ∧ o.isCells = false ∧ MapB (W.putObj r o) r (fun y => if y = x then some v else f y) := by
  have hlt := h.lt
  obtain ⟨es, clock, h1, h2, h3, h4⟩ := h
  rcases keyedI.find W (keyOfI hx) es.toList (MapB.keysOf h2) with ⟨g1, g2⟩ | ⟨j, e0, g1, g2, g3⟩
  · refine ⟨.map (es.push ⟨.int .i64 x, v, clock⟩) (clock + 1), ?_, rfl, es.push ⟨.int .i64 x, v, clock⟩, clock + 1, World.putObj_heap_same hlt, ?_, ?_, ?_⟩
    · simp [Instr.mapUpdate, run_underlying Tryz.underlying103, MapKept.run_getObj_map h1, keyedI.check W false (keyOfI hx), g1, MapKept.run_setObj_map _ h1, Result.andThen]
      rfl
    · intro e he
      simp only [Array.toList_push, List.mem_append, List.mem_singleton] at he
      rcases he with he | rfl
      · exact h2 e he
      · exact ⟨x, rfl, hx⟩
    · rw [Array.toList_push, List.pairwise_append]
      refine ⟨h3, by simp, fun a ha b hb => ?_⟩
      simp only [List.mem_singleton] at hb
      subst hb
      exact g2 a ha
    · intro y u
      simp only [Array.toList_push, List.mem_append, List.mem_singleton]
      by_cases e : y = x
      · subst e
        rw [if_pos rfl]
        constructor
        · intro e1
          cases e1
          exact ⟨_, .inr rfl, rfl, rfl⟩
        · rintro ⟨e, he | rfl, e1, e2⟩
          · exact absurd e1 (g2 e he)
          · rw [← e2]
      · rw [if_neg e, h4]
        constructor
        · rintro ⟨e1, he, h5⟩
          exact ⟨e1, .inl he, h5⟩
        · rintro ⟨e1, he | rfl, e2, e3⟩
          · exact ⟨e1, he, e2, e3⟩
          · simp only [Value.int.injEq, true_and] at e2
            exact absurd e2.symm e
  · have hj : es[j]? = some e0 := by simpa using g2
    have hlist : (es.modify j (fun e' => { e' with key := .int .i64 x, val := v })).toList = es.toList.set j { e0 with key := .int .i64 x, val := v } := by
      rw [Array.toList_modify]
      exact modify_eq_set _ _ _ _ g2
    have hoth : ∀ (i : Nat) (e : MapEntry), es.toList[i]? = some e → i ≠ j → e.key ≠ .int .i64 x := fun i e hi hne => by
      have hp := List.pairwise_iff_getElem.1 h3
      obtain ⟨hi1, hi2⟩ := List.getElem?_eq_some_iff.1 hi
      obtain ⟨hj1, hj2⟩ := List.getElem?_eq_some_iff.1 g2
      rcases Nat.lt_or_gt_of_ne hne with h | h
      · have := hp i j hi1 hj1 h
        rw [hi2, hj2, g3] at this
        exact this
      · have := hp j i hj1 hi1 h
        rw [hi2, hj2, g3] at this
        exact fun e => this e.symm
    have hmem : ∀ e, e ∈ es.toList.set j { e0 with key := .int .i64 x, val := v } ↔ e = { e0 with key := .int .i64 x, val := v } ∨ (e ∈ es.toList ∧ e.key ≠ .int .i64 x) := fun e => by
      rw [List.mem_iff_getElem?]
      constructor
      · rintro ⟨i, hi⟩
        rw [List.getElem?_set] at hi
        split at hi
        · split at hi
          · exact .inl (Option.some.inj hi).symm
          · cases hi
        · rename_i hne
          exact .inr ⟨List.mem_of_getElem? hi, hoth i e hi (fun h => hne h.symm)⟩
      · rintro (rfl | ⟨he, hk⟩)
        · exact ⟨j, by rw [List.getElem?_set_self (List.getElem?_eq_some_iff.1 g2).1]⟩
        · obtain ⟨i, hi⟩ := List.mem_iff_getElem?.1 he
          refine ⟨i, ?_⟩
          rw [List.getElem?_set_ne (fun h => hk (by subst h; rw [g2] at hi; cases hi; exact g3))]
          exact hi
    refine ⟨.map (es.modify j (fun e' => { e' with key := .int .i64 x, val := v })) clock, ?_, rfl, es.modify j (fun e' => { e' with key := .int .i64 x, val := v }), clock, World.putObj_heap_same hlt, ?_, ?_, ?_⟩
    · simp [Instr.mapUpdate, run_underlying Tryz.underlying103, MapKept.run_getObj_map h1, keyedI.check W false (keyOfI hx), g1, hj, g3, keyedI.stays W (keyOfI hx), MapKept.run_setObj_map _ h1, Result.andThen]
      rfl
    · rw [hlist]
      intro e he
      rcases (hmem e).1 he with rfl | ⟨he, _⟩
      · exact ⟨x, rfl, hx⟩
      · exact h2 e he
    · rw [hlist]
      have hk : (es.toList.set j { e0 with key := .int .i64 x, val := v }).map (·.key) = es.toList.map (·.key) := by
        rw [List.map_set]
        apply List.ext_getElem?
        intro i
        rw [List.getElem?_set]
        split
        · rename_i e
          subst e
          rw [List.getElem?_map, g2]
          have hjl := (List.getElem?_eq_some_iff.1 g2).1
          simp at hjl
          simp [g3, hjl]
        · rfl
      have h5 : (es.toList.map (·.key)).Pairwise (· ≠ ·) := List.pairwise_map.2 h3
      rw [← hk] at h5
      exact List.pairwise_map.1 h5
    · intro y u
      rw [hlist]
      show (if y = x then some v else f y) = some u ↔ _
      by_cases e : y = x
      · subst e
        rw [if_pos rfl]
        constructor
        · intro e1
          cases e1
          exact ⟨_, (hmem _).2 (.inl rfl), rfl, rfl⟩
        · rintro ⟨e, he, e1, e2⟩
          rcases (hmem e).1 he with rfl | ⟨_, hk⟩
          · rw [← e2]
          · exact absurd e1 hk
      · rw [if_neg e, h4]
        constructor
        · rintro ⟨e1, he, e2, e3⟩
          exact ⟨e1, (hmem _).2 (.inr ⟨he, by rw [e2]; simpa using e⟩), e2, e3⟩
        · rintro ⟨e1, he, e2, e3⟩
          rcases (hmem e1).1 he with rfl | ⟨he, _⟩
          · simp only [Value.int.injEq, true_and] at e2
            exact absurd e2.symm e
          · exact ⟨e1, he, e2, e3⟩

end Go.Proofs.YtkdhcpfmlelfcaaGreatDoor

namespace Go.Proofs.YtkdhcpfmlelfcaaGreatDoor
set_option linter.unusedVariables false
set_option linter.unusedSimpArgs false
set_option maxRecDepth 100000
open Go Go.RowKit Go.Shelf Go.Lib

/-- What is handed over in the round k: the place, and what stands there. -/
def backV (M : List Pt) (k : Nat) : Array Value := #[.int .i64 ((M.length : Int) - 1 - (k : Int)), .agg #[.int .i64 (atP M (M.length - 1 - k)).1, .bool (atP M (M.length - 1 - k)).2.1, (atP M (M.length - 1 - k)).2.2.1]]

set_option maxHeartbeats 2000000 in
theorem back_hands (B : Nat) (v : Value) (M : List Pt) (hsl : Sl M) (hl : M.length ≤ 1048576) :
    HandsB Tryz.prog 100 #[.pointer (some ⟨B, 0, none⟩)] M.length (backV M) (fun _ W => VarsKnow B v M W) := by
  intro l J Jx W hKn hSt hY h0
  obtain ⟨hc0, hr0⟩ := hKn 0 W h0
  obtain ⟨a, n, c, rfl⟩ := hr0.shape
  obtain rfl : n = M.length := by
    obtain ⟨_, _, e, _⟩ := hr0
    cases e
    rfl
  have HBV : Hid (∀ k, backV M k = #[.int .i64 ((M.length : Int) - 1 - (k : Int)), .agg #[.int .i64 (atP M (M.length - 1 - k)).1, .bool (atP M (M.length - 1 - k)).2.1, (atP M (M.length - 1 - k)).2.2.1]]) := fun k => rfl
  generalize hLn : M.length = Ln at *
  have hw0 : IntKind.i64.wrap ((Ln : Int) - 1) = (Ln : Int) - 1 := by rw [IntKind.wrap_i64]; omega
  have HLN := hide hLn
  have HKn := hide hKn
  have HSt := hide hSt
  have HY := hide hY
  have HSL := hide hsl
  clear hr0 hKn hSt hY hLn hsl
  refine callsIn_of_wp Tryz.func100 rfl trivial ?_ rfl
  simp only [Tryz.ntmps100, List.size_toArray, List.length_cons, List.length_nil, Nat.reduceAdd, Nat.reduceSub, Array.replicate_succ, Array.replicate_zero, List.push_toArray, List.append_toArray, List.nil_append, List.cons_append]
  gi_wp2
  gi_loopw [3] (fun i wr => ∃ k : Nat, k ≤ Ln ∧ i = .int .i64 ((Ln : Int) - 1 - (k : Int)) ∧ J k wr) (fun i _ => (RowKit.intOf i + 1).toNat)
  case atStart => exact ⟨0, Nat.zero_le _, by simp, h0⟩
  case round =>
    obtain ⟨k, hk, rfl, hJ⟩ := hrel
    clear h0 hc0 hw0
    by_cases hlt : k < Ln
    · obtain ⟨j, hj⟩ : ∃ j : Nat, j = Ln - 1 - k := ⟨_, rfl⟩
      have hji : (Ln : Int) - 1 - (k : Int) = (j : Int) := by omega
      have hjl : j < Ln := by omega
      rw [hji]
      obtain ⟨⟨vr, neg, mv, z⟩, hm⟩ : ∃ m, M[j]? = some m := ⟨_, List.getElem?_eq_getElem (by rw [HLN.out]; exact hjl)⟩
      obtain ⟨ma, mL, mc, e⟩ := HSL.out _ (List.mem_of_getElem? hm)
      simp only at e
      subst e
      obtain ⟨hcb, hr⟩ := HKn.out k _ hJ
      obtain ⟨_, _, e, _, _, h3⟩ := hr
      simp only [Value.slice.injEq] at e
      obtain ⟨ea, eL, ec⟩ := e
      clear eL
      subst ea
      subst ec
      obtain ⟨b, o, rfl, hc⟩ := h3 j _ hm
      obtain ⟨c0, c1, c2⟩ := hc
      dsimp only at c0 c1 c2
      have hy0 := HY.out k _ hlt hJ
      rw [HBV.out k, hji, ← hj, atP_of hm] at hy0
      have d1 : (j : Int) < (Ln : Int) := by omega
      have d0 : (0 : Int) ≤ (j : Int) := by omega
      have HJI := hide hji
      have HJ := hide hj
      have hw1 : IntKind.i64.wrap ((j : Int) - 1) = (j : Int) - 1 := by rw [IntKind.wrap_i64]; omega
      clear hm h3 hJ hji hj
      obtain ⟨fn, tmps, assign, body, hy, hR⟩ := hy0
      gi_wp2
      refine hR.mono ?_
      rintro e W3 (⟨rfl, hJ3⟩ | ⟨rfl, hJx3⟩)
      · clear hR hy
        gi_wp2
        go_roundw
        case rel => exact ⟨k + 1, by omega, by have := HJI.out; simp; omega, hJ3⟩
        case measure => simp [RowKit.intOf]
      · clear hR hy
        gi_wp2
        refine bodyPost_ret (results_none rfl _ _ _) rfl ?_
        exact ⟨⟨_, rfl⟩, .inr ⟨k, hlt, hJx3⟩⟩
    · obtain rfl : k = Ln := by omega
      have e1 : (k : Int) - 1 - (k : Int) = -1 := by omega
      rw [e1]
      clear e1
      gi_wp2
      go_end0
      exact ⟨⟨_, rfl⟩, .inl hJ⟩

/-- What Backward answers: an iterator over the row. -/
def BackE (w : World) (v : Value) (e : Ending) (w' : World) : Prop :=
  ∃ B, e = .returned (.func (.func 100) #[] #[.pointer (some ⟨B, 0, none⟩)]) ∧ Uno w' B v 60 ∧ w.heap.size ≤ B ∧ Below w.heap.size w w'

set_option maxHeartbeats 1000000 in
theorem back_calls (w : World) (a : Option Addr) (l c : Nat) : Calls Tryz.prog 65 #[.slice a l c] w fun e w' => BackE w (.slice a l c) e w' := by
  go_enter Tryz.func65, Tryz.ntmps65
  go_wp2
  go_ret
  exact ⟨w.heap.size, rfl, World.alloc_heap_new w _, Nat.le_refl _, bel w _⟩

end Go.Proofs.YtkdhcpfmlelfcaaGreatDoor

namespace Go.Proofs.YtkdhcpfmlelfcaaGreatDoor
set_option linter.unusedVariables false
set_option linter.unusedSimpArgs false
set_option maxRecDepth 100000
open Go Go.RowKit Go.Shelf Go.Lib
attribute [local go_sem] Oper.semAt_some

/-- A loop over an iterator whose variables aren't laid into memory. -/
theorem range_knownD {P : Program} {g : Operand} {ps : Array Tmp} {assign body : Code} {Q : Exit → Act → World → Prop} {a : Act} {w : World}
    {gf : Nat} {lb : Array Value} (hg : a.eval g = .func (.func gf) #[] lb) (eg : ∀ args w, (callFunc gf args).run P w = .ok (.enter gf args) w)
    {N : Nat} {args : Nat → Array Value} {Know : Nat → World → Prop} (hseq : HandsB P gf lb N args Know) (hps : ∀ k, (args k).size = ps.size)
    (J : Nat → World → Prop) (Jx : Code → Nat → World → Prop) (hJ : ∀ k W W', J k W → Cel W W' → J k W') (hJx : ∀ c k W W', Jx c k W → Cel W W' → Jx c k W') (n₀ : Nat) (w₀ : World) (hn : n₀ ≤ w₀.heap.size) (hn2 : n₀ ≤ w.heap.size)
    (hKn : ∀ k W, J k W → Know k W) (h0 : J 0 w ∧ Below n₀ w₀ w) (a₁ : Nat → Act)
    (hassign : ∀ (l k : Nat) (W : World) (K : Act → World → Prop), k < N → K (a₁ k) W →
      assign.wpIn (Fence.wide.inRound l) 1 P (Exit.then K (fun _ _ _ => False)) { tmps := (ps.zip (args k)).foldl (fun t (p, v) => t.setIfInBounds p v) a.tmps, defers := [] } W)
    (hbody : ∀ (l k : Nat) (W : World), k < N → J k W ∧ Below n₀ w₀ W → body.wpIn (Fence.wide.inRound l) 1 P (roundPost w.heap.size (fun k W => J k W ∧ Below n₀ w₀ W) (fun c k W => Jx c k W ∧ Below n₀ w₀ W) k W) (a₁ k) W)
    (hdone : ∀ (D : Nat) (W : World), w.heap.size ≤ D → J N W ∧ Below n₀ w₀ W → W.heap[D]? = some (.deferred (some [])) → Q .normal { a with defers := { target := .collected D, args := #[] } :: a.defers } W)
    (hstop : ∀ (D : Nat) (c : Code) (k : Nat) (W : World), w.heap.size ≤ D → k < N → Jx c k W ∧ Below n₀ w₀ W → W.heap[D]? = some (.deferred (some [])) → c.wpIn Fence.wide 3 P Q { a with defers := { target := .collected D, args := #[] } :: a.defers } W) :
    (Code.rangeFunc g ps assign body).wpIn Fence.wide 3 P Q a w :=
  range_knownB hg eg hseq hps (fun k W => J k W ∧ Below n₀ w₀ W) (fun c k W => Jx c k W ∧ Below n₀ w₀ W) (ownFrom_frame hJ hn hn2) (fun c => ownFrom_frame (hJx c) hn hn2) (fun k W h => hKn k W h.1)
    (fun k W W' h hb => ⟨hJ k W W' h.1 (Cel.of hb), h.2.trans (hb.mono (Nat.le_trans hn h.2.size))⟩) h0 a₁ hassign hbody hdone hstop

def LIsE (w : World) (M : List Pt) (e : Ending) (w' : World) : Prop := ∃ l : Ps, e = .returned (.bool (decide (l.length = 0))) ∧ NF l ∧ (∀ u, cf u l = cf u (ps M)) ∧ Below w.heap.size w w'

set_option maxHeartbeats 4000000 in
theorem isconst_calls {k : Nat} {w : World} {v : Value} {c : Int} {M : List Pt} (h : TermA k w v c M) (hk : k ≤ 400000) :
    Calls Tryz.prog 17 #[v] w fun e w' => LIsE w M e w' := by
  obtain ⟨cn, ca, cL, cc, pa, pl, pc, rfl⟩ := h.form
  have tb := (Thr.new w (.bool cn) (.slice ca cL cc) (.slice pa pl pc) 27).alloc (.cells #[.bool false] 4)
  have hba : Below w.heap.size w ((w.alloc (.cells #[.bool cn, .slice ca cL cc, .slice pa pl pc] 27)).alloc (.cells #[.bool false] 4)) := (bel _ _).trans ((bel _ _).mono (by simp))
  have tu : Uno ((w.alloc (.cells #[.bool cn, .slice ca cL cc, .slice pa pl pc] 27)).alloc (.cells #[.bool false] 4)) (w.heap.size + 1) (.bool false) 4 := by
    have h1 := World.alloc_heap_new (w.alloc (.cells #[.bool cn, .slice ca cL cc, .slice pa pl pc] 27)) (.cells #[.bool false] 4)
    rw [World.size_alloc] at h1
    exact h1
  generalize hwA : (w.alloc (.cells #[.bool cn, .slice ca cL cc, .slice pa pl pc] 27)).alloc (.cells #[.bool false] 4) = wA at *
  have hvars := vars_calls (h.below hba) (by omega)
  have HT := hide h
  have HWA := hide hwA
  have HBA := hide hba
  have TU := hide tu
  obtain ⟨c0, c1, c2, _, _, _⟩ := tb.every
  clear hwA tb hba tu h
  refine calls_of_marks Tryz.func17 rfl ?_
  simp only [Tryz.ntmps17, List.size_toArray, List.length_cons, List.length_nil, Nat.reduceAdd, Nat.reduceSub, Array.replicate_succ, Array.replicate_zero, List.push_toArray, List.append_toArray, List.nil_append, List.cons_append]
  go_upto_region 1 with fail
  rw [HWA.out]
  go_wp2_with fail
  refine hvars.mono ?_
  clear hvars c0 c1 c2
  rintro e w3 ⟨B0, M3, a3, l3, k3, rfl, hu3, hB0, ho3, hg3, hn3, hc3, hb3⟩
  have HU3 := hide hu3
  have HO3 := hide ho3
  have HG3 := hide hg3
  have HN3 := hide hn3
  have HC3 := hide hc3
  have HB3 := hide hb3
  clear hu3 hB0 ho3 hg3 hn3 hc3 hb3
  go_wp2_with fail
  refine (wpIn_wide (n := 3)).1 ?_
  have HL3 : Hid (M3.length ≤ 1000) := by
    have h1 := len_of HN3.out HC3.out
    have h2 := HT.out.len
    show _ ≤ _
    omega
  refine range_knownD (gf := 74) (lb := #[.pointer (some ⟨B0, 0, none⟩)]) ?hg (enters_of Tryz.func74 (by kernel_rfl) rfl)
    (vars_hands B0 (.slice a3 l3 k3) M3 HG3.out.sl (by have := HL3.out; omega)) (fun _ => rfl)
    (fun i W => i = 0 ∧ VarsKnow B0 (.slice a3 l3 k3) M3 W ∧ Uno W (w.heap.size + 1) (.bool false) 4)
    (fun c i W => c = .ret ∧ Uno W (w.heap.size + 1) (.bool false) 4) (fun i W W' hj hc => ⟨hj.1, hj.2.1.cel hc, hc.uno hj.2.2⟩) (fun c i W W' hj hc => ⟨hj.1, hc.uno hj.2⟩) w.heap.size w (Nat.le_refl _) (Nat.le_trans HBA.out.size HB3.out.size)
    (fun i W hj => hj.2.1) ⟨⟨rfl, ⟨HU3.out.c0, HO3.out.row⟩, TU.out.keep HB3.out⟩, bafter HBA.out HB3.out (Nat.le_refl _)⟩ ?a1 ?assign ?body ?done ?stop
  case hg => rfl
  case assign =>
    intro l i W K hi hK
    unfold varV
    gi_wp2
    exact hK
  case body =>
    rintro l i W hi ⟨⟨rfl, hkn, hu⟩, hbw⟩
    have u0 := hu.c0
    have u1 := hu.f0 0
    have HUU := hide hu
    have HBW := hide hbw
    clear hkn hu hbw
    gi_wp2
    exact ⟨(KeepsOthers.setCell _ _ _).from _, ⟨rfl, HUU.out.put _⟩, HBW.out.setCell (p := ⟨w.heap.size + 1, 0, none⟩) (by show _ ≤ w.heap.size + 1; omega) _⟩
  case done =>
    rintro D W hD ⟨⟨h0, hkn, hu⟩, hbw⟩ hK
    have u0 := hu.c0
    have u1 := hu.f0 0
    have HUU := hide hu
    have HBW := hide hbw
    have HK := hide hK
    have H0 := hide h0
    have HD := hide hD
    clear hkn hu hbw hK h0 hD
    go_wp2
    have hK' := (KeepsOthers.setCell W ⟨w.heap.size + 1, 0, none⟩ (.bool true)).same D _ HK.out rfl
    refine ⟨by simp, .inl ⟨_, _, rfl, run_takeDeferred hK', ?_⟩⟩
    have hc5 := ((cel_put (.deferred none) hK' rfl).uno (HUU.out.put (.bool true))).c0
    refine ⟨.bool true, ?_, ps M3, ?_, HN3.out, HC3.out, (HBW.out.setCell (p := ⟨w.heap.size + 1, 0, none⟩) (by show _ ≤ w.heap.size + 1; omega) _).trans (belowK_b (w := w) (Nat.le_refl _) _ D _ _ (by have h1 := HD.out; have h2 := HBA.out.size; have h3 := HB3.out.size; omega) hK' rfl rfl)⟩
    · simp [results, Tryz.f17, go_sem, hc5]
    · rw [ps_length, H0.out]
      rfl
  case stop =>
    rintro D c i W hD hi ⟨⟨rfl, hu⟩, hbw⟩ hK
    have HUU := hide hu
    have HBW := hide hbw
    have HK := hide hK
    have HI := hide hi
    have HD := hide hD
    clear hu hbw hK hi hD
    gi_wp2
    refine ⟨by simp, .inl ⟨_, _, rfl, run_takeDeferred HK.out, ?_⟩⟩
    have hc5 := ((cel_put (.deferred none) HK.out rfl).uno HUU.out).c0
    refine ⟨.bool false, ?_, ps M3, ?_, HN3.out, HC3.out, HBW.out.trans (belowK_b (w := w) (Nat.le_refl _) _ D _ _ (by have h1 := HD.out; have h2 := HBA.out.size; have h3 := HB3.out.size; omega) HK.out rfl rfl)⟩
    · simp [results, Tryz.f17, go_sem, hc5]
    · rw [ps_length, decide_eq_false (by have := HI.out; omega)]

end Go.Proofs.YtkdhcpfmlelfcaaGreatDoor

namespace Go.Proofs.YtkdhcpfmlelfcaaGreatDoor
set_option linter.unusedVariables false
set_option linter.unusedSimpArgs false
set_option maxRecDepth 100000
open Go Go.RowKit Go.Shelf Go.Lib

theorem kept_block {B D : Nat} {o : Obj} (h : D < B) : ∀ (W W' : World) (row : Option Nat), W.heap[D]? = some o → W.grownBy W' row → (∀ r, row = some r → B ≤ r ∧ ∃ o' : Obj, W.heap[r]? = some o' ∧ o'.isCells = false) → W'.heap[D]? = some o := fun W W' row hD hg hr =>
  (hg.block D (Array.getElem?_eq_some_iff.1 hD).1 (fun e => by have := (hr D e.symm).1; omega)).trans hD

/-- The same as range_knownC, where something else of memory is kept besides. -/
theorem range_knownE {P : Program} {g : Operand} {ps : Array Tmp} {assign body : Code} {Q : Exit → Act → World → Prop} {a : Act} {w : World}
    {gf : Nat} {lb : Array Value} (hg : a.eval g = .func (.func gf) #[] lb) (eg : ∀ args w, (callFunc gf args).run P w = .ok (.enter gf args) w)
    {N : Nat} {args : Nat → Array Value} {Know : Nat → World → Prop} (hseq : HandsB P gf lb N args Know) (hps : ∀ k, (args k).size = ps.size)
    (J : Nat → World → Prop) (Jx : Code → Nat → World → Prop) (hJ : ∀ k W W', J k W → Cel W W' → J k W') (hJx : ∀ c k W W', Jx c k W → Cel W W' → Jx c k W')
    (X : Nat → World → Prop) (hX : ∀ (k : Nat) (W W' : World) (row : Option Nat), X k W → W.grownBy W' row → (∀ r, row = some r → w.heap.size ≤ r ∧ ∃ o : Obj, W.heap[r]? = some o ∧ o.isCells = false) → X k W') (hXB : ∀ k W W', X k W → Below W.heap.size W W' → X k W')
    (n₀ : Nat) (w₀ : World) (hn : n₀ ≤ w₀.heap.size) (hn2 : n₀ ≤ w.heap.size)
    (hKn : ∀ k W, J k W → Know k W) (h0 : (J 0 w ∧ X 0 w) ∧ Below n₀ w₀ w) (o : Nat → Obj) (ho : ∀ k, (o k).isCells = true) (a₁ : Nat → Nat → Act)
    (hassign : ∀ (l k B : Nat) (W : World) (K : Act → World → Prop), k < N → W.heap.size = B → K (a₁ k B) (W.alloc (o k)) →
      assign.wpIn (Fence.wide.inRound l) 1 P (Exit.then K (fun _ _ _ => False)) { tmps := (ps.zip (args k)).foldl (fun t (p, v) => t.setIfInBounds p v) a.tmps, defers := [] } W)
    (hbody : ∀ (l k B : Nat) (W : World), k < N → J k W → X k W → Below n₀ w₀ W → W.heap[B]? = some (o k) → w.heap.size ≤ B →
      body.wpIn (Fence.wide.inRound l) 1 P (roundPost w.heap.size (fun k W => (J k W ∧ X k W) ∧ Below n₀ w₀ W) (fun c k W => (Jx c k W ∧ X k W) ∧ Below n₀ w₀ W) k W) (a₁ k B) W)
    (hdone : ∀ (D : Nat) (W : World), w.heap.size ≤ D → J N W → X N W → Below n₀ w₀ W → W.heap[D]? = some (.deferred (some [])) → Q .normal { a with defers := { target := .collected D, args := #[] } :: a.defers } W)
    (hstop : ∀ (D : Nat) (c : Code) (k : Nat) (W : World), w.heap.size ≤ D → k < N → Jx c k W → X k W → Below n₀ w₀ W → W.heap[D]? = some (.deferred (some [])) → c.wpIn Fence.wide 3 P Q { a with defers := { target := .collected D, args := #[] } :: a.defers } W) :
    (Code.rangeFunc g ps assign body).wpIn Fence.wide 3 P Q a w := by
  have hown : ∀ {β : Type} {F : β → World → Prop} (g : β → Nat), (∀ s W W', F s W → Cel W W' → F s W') → OwnFrom w.heap.size (fun s W => ((F s W ∧ X (g s) W) ∧ w.heap.size ≤ W.heap.size) ∧ Below n₀ w₀ W) := fun g hF s W W' row hs hgr hr =>
    ⟨⟨⟨hF s W W' hs.1.1.1 (cel_grown hgr hr), hX (g s) W W' row hs.1.1.2 hgr hr⟩, Nat.le_trans hs.1.2 hgr.size⟩, (ownFrom_below (β := Unit) hn hn2) () W W' row hs.2 hgr hr⟩
  refine range_knownA hg eg hseq hps (fun k W => ((J k W ∧ X k W) ∧ w.heap.size ≤ W.heap.size) ∧ Below n₀ w₀ W) (fun c k W => ((Jx c k W ∧ X k W) ∧ w.heap.size ≤ W.heap.size) ∧ Below n₀ w₀ W) (hown id hJ) (fun c => hown id (hJx c)) (fun k W h => hKn k W h.1.1.1)
    (fun k W W' h hb => ⟨⟨⟨hJ k W W' h.1.1.1 (Cel.of hb), hXB k W W' h.1.1.2 hb⟩, Nat.le_trans h.1.2 hb.size⟩, h.2.trans (hb.mono (Nat.le_trans hn h.2.size))⟩) ⟨⟨h0.1, Nat.le_refl _⟩, h0.2⟩
    (fun p W2 => ((((∃ B, p.2 = a₁ p.1 B ∧ W2.heap[B]? = some (o p.1) ∧ w.heap.size ≤ B) ∧ J p.1 W2) ∧ X p.1 W2) ∧ w.heap.size ≤ W2.heap.size) ∧ Below n₀ w₀ W2) (hown (fun (p : Nat × Act) => p.1) ?_) ?_ ?_ (fun D W hD h hK => hdone D W hD h.1.1.1 h.1.1.2 h.2 hK) (fun D c k W hD hk h hK => hstop D c k W hD hk h.1.1.1 h.1.1.2 h.2 hK)
  · rintro s W W' ⟨⟨B, e1, e2, e3⟩, e4⟩ hc
    exact ⟨⟨B, e1, hc _ _ e2 (ho _), e3⟩, hJ _ _ _ e4 hc⟩
  · intro l k W K hk hI hK
    exact hassign l k W.heap.size W K hk rfl (hK _ _ (bel _ _) ⟨⟨⟨⟨⟨W.heap.size, rfl, World.alloc_heap_new W _, hI.1.2⟩, hJ _ _ _ hI.1.1.1 (Cel.of (bel _ _))⟩, hXB _ _ _ hI.1.1.2 (bel _ _)⟩, Nat.le_trans hI.1.2 (bel W _).size⟩, bafter hI.2 (bel _ _) hn⟩)
  · rintro l k a1 W hk ⟨⟨⟨⟨⟨B, e1, e2, e3⟩, e4⟩, e7⟩, e6⟩, e5⟩
    dsimp only at e1 e2
    subst e1
    refine wpIn_mono (hbody l k B W hk e4 e7 e5 e2 e3) ?_
    rintro e a3 W3 hp
    cases e with
    | normal => exact ⟨hp.1, ⟨hp.2.1, Nat.le_trans e6 hp.1.size⟩, hp.2.2⟩
    | ret => exact ⟨hp.1, ⟨hp.2.1, Nat.le_trans e6 hp.1.size⟩, hp.2.2⟩
    | exit id => exact ⟨hp.1, ⟨hp.2.1, Nat.le_trans e6 hp.1.size⟩, hp.2.2⟩
    | goto t => exact ⟨hp.1, ⟨hp.2.1, Nat.le_trans e6 hp.1.size⟩, hp.2.2⟩
    | panic c => exact hp
    | outgrown => exact hp

end Go.Proofs.YtkdhcpfmlelfcaaGreatDoor

namespace Go.Proofs.YtkdhcpfmlelfcaaGreatDoor
set_option linter.unusedVariables false
set_option linter.unusedSimpArgs false
set_option maxRecDepth 100000
open Go Go.RowKit Go.Shelf Go.Lib
attribute [local go_sem] Oper.semAt_some

/-- What a variable is bound to: the first of its bindings. -/
def lookB (L : List Pt) (x : Int) : Option Pt := L.find? (fun m => m.1 == x)
def valB (m : Pt) : Value := .agg #[.bool m.2.1, m.2.2.1]
def lookV (L : List Pt) (x : Int) : Option Value := (lookB L x).map valB
def lookZ (L : List Pt) (x : Int) : Int := ((lookB L x).map (fun m => m.2.2.2)).getD 0
theorem lookV_nil : lookV [] = fun _ => none := rfl
theorem lookV_step {L : List Pt} {j : Nat} {m : Pt} (h : L[j]? = some m) : lookV (L.drop j) = fun y => if y = m.1 then some (valB m) else lookV (L.drop (j + 1)) y := by
  obtain ⟨h1, h2⟩ := List.getElem?_eq_some_iff.1 h
  funext y
  rw [List.drop_eq_getElem_cons h1, h2]
  unfold lookV lookB
  rw [List.find?_cons]
  by_cases e : y = m.1
  · subst e
    simp
  · have e2 : (m.1 == y) = false := beq_eq_false_iff_ne.2 (fun h => e h.symm)
    rw [e2, if_neg e]
theorem look_mem {L : List Pt} {x : Int} {m : Pt} (h : lookB L x = some m) : m ∈ L ∧ m.1 = x := ⟨List.mem_of_find?_eq_some h, by simpa using List.find?_some h⟩
theorem look_arg {W : World} {L : List Pt} (hG : GoodA W L) (x : Int) : BArg W ((lookV L x).getD zBig) (lookZ L x) := by
  unfold lookV lookZ
  cases h : lookB L x with
  | none => exact BRes.arg (k := 0) ⟨_, rfl, Res.nil _⟩ (by simp) (by omega)
  | some m => exact (hG m (look_mem h).1).2
theorem look_bnd {L : List Pt} {k : Nat} (hB : Bnd k (ps L)) (x : Int) : (lookZ L x).natAbs < R ^ k := by
  unfold lookZ
  cases h : lookB L x with
  | none => exact Nat.pow_pos R_pos
  | some m => exact hB (pt m) (List.mem_map.2 ⟨m, (look_mem h).1, rfl⟩)
theorem look_form {W : World} {L : List Pt} (hG : GoodA W L) (x : Int) : ∃ b a l c, (lookV L x).getD zBig = .agg #[.bool b, .slice a l c] := by
  unfold lookV
  cases h : lookB L x with
  | none => exact ⟨_, _, _, _, rfl⟩
  | some m =>
    obtain ⟨a, l, c, e⟩ := hG.sl m (look_mem h).1
    exact ⟨m.2.1, a, l, c, by simp [valB, e]⟩
theorem ev_take {M : List Pt} {i : Nat} {m : Pt} (h : M[i]? = some m) (f : Int → Int) : ev f (ps (M.take (i + 1))) = ev f (ps (M.take i)) + m.2.2.2 * f m.1 := by
  rw [List.take_add_one, h, ps_append, ev_append]
  show _ + (m.2.2.2 * f m.1 + 0) = _
  omega
theorem ev_bnd {k j : Nat} {f : Int → Int} (hf : ∀ x, (f x).natAbs < R ^ j) : ∀ {l : Ps}, Bnd k l → (ev f l).natAbs < R ^ (k + j + l.length)
  | [], _ => Nat.pow_pos R_pos
  | p :: l, h => by
    have h1 := ev_bnd hf (l := l) (fun q hq => h q (by simp [hq]))
    have h2 := bl_mul (h p (by simp)) (hf p.1)
    rw [ev_cons, List.length_cons, ← Nat.add_assoc]
    exact pl_add (lt_up h2 (by omega)) h1

theorem lookZ_cons (m : Pt) (L : List Pt) (x : Int) : lookZ (m :: L) x = if m.1 = x then m.2.2.2 else lookZ L x := by
  unfold lookZ lookB
  rw [List.find?_cons]
  by_cases e : m.1 = x
  · rw [if_pos e]
    subst e
    simp
  · have e2 : (m.1 == x) = false := beq_eq_false_iff_ne.2 e
    rw [e2, if_neg e]
theorem MapB.cel {W : World} {r : Nat} {f : Int → Option Value} (h : MapB W r f) (o : Obj) : Cel W (W.putObj r o) := by
  obtain ⟨es, clock, h1, _⟩ := h
  exact cel_put o h1 rfl
theorem below_obj {n : Nat} {w W : World} (h : Below n w W) {r : Nat} (hr : n ≤ r) (o : Obj) : Below n w (W.putObj r o) :=
  ⟨h.os, h.tape, h.output, by have := h.size; simpa using this, fun k hk => (World.putObj_heap_other (by omega)).trans (h.block k hk)⟩
theorem keepsFrom_obj {C r : Nat} {W : World} (hr : r < C) (o : Obj) : KeepsFrom C W (W.putObj r o) := ⟨by simp, fun k o' hk hb _ => (World.putObj_heap_other (by omega)).trans hb⟩
theorem kept_map {B r : Nat} {f : Int → Option Value} (h : r < B) : ∀ (W W' : World) (row : Option Nat), MapB W r f → W.grownBy W' row → (∀ r, row = some r → B ≤ r ∧ ∃ o' : Obj, W.heap[r]? = some o' ∧ o'.isCells = false) → MapB W' r f := fun W W' row hD hg hr =>
  hD.keep (hg.block r hD.lt (fun e => by have := (hr r e.symm).1; omega))

/-- A number in its box. -/
def SumAt (W : World) (b : Nat) (z : Int) : Prop := ∃ sn sa sL sc, Two W b (.bool sn) (.slice sa sL sc) 24 ∧ BRes W (.agg #[.bool sn, .slice sa sL sc]) z
def EvalE (w : World) (z : Int) (e : Ending) (w' : World) : Prop := ∃ rv, e = .returned rv ∧ BRes w' rv z ∧ Below w.heap.size w w'

set_option maxHeartbeats 16000000 in
theorem eval_calls {k : Nat} {w : World} {v : Value} {c : Int} {M : List Pt} (h : TermA k w v c M) {la : Option Addr} {Ln lk : Nat} {L : List Pt} (hR : RowP w (.slice la Ln lk) L) (hG : GoodA w L) (hB : Bnd k (ps L)) (hl : L.length ≤ 1000) (hk : k ≤ 100000) :
    Calls Tryz.prog 36 #[v, .slice la Ln lk] w fun e w' => EvalE w (c + ev (lookZ L) (ps M)) e w' := by
  obtain ⟨cn, ca, cL, cc, pa, pl, pc, rfl⟩ := h.form
  have hLn : L.length = Ln := by
    obtain ⟨_, _, e, _⟩ := hR
    simp only [Value.slice.injEq] at e
    exact e.2.1.symm
  have tb := (((Thr.new w (.bool cn) (.slice ca cL cc) (.slice pa pl pc) 27).alloc (.cells #[.bool false, .slice none 0 0] 24)).alloc (.map #[] 0)).alloc (.cells #[.map (some (w.heap.size + 1 + 1))] 103)
  have tz : Two ((((w.alloc (.cells #[.bool cn, .slice ca cL cc, .slice pa pl pc] 27)).alloc (.cells #[.bool false, .slice none 0 0] 24)).alloc (.map #[] 0)).alloc (.cells #[.map (some (w.heap.size + 1 + 1))] 103)) (w.heap.size + 1) (.bool false) (.slice none 0 0) 24 := ((Two.new1 w (.cells #[.bool cn, .slice ca cL cc, .slice pa pl pc] 27) (.bool false) (.slice none 0 0) 24).alloc (.map #[] 0)).alloc (.cells #[.map (some (w.heap.size + 1 + 1))] 103)
  have tm : MapB ((((w.alloc (.cells #[.bool cn, .slice ca cL cc, .slice pa pl pc] 27)).alloc (.cells #[.bool false, .slice none 0 0] 24)).alloc (.map #[] 0)).alloc (.cells #[.map (some (w.heap.size + 1 + 1))] 103)) (w.heap.size + 1 + 1) (fun _ => none) := by
    have h1 := MapB.made ((w.alloc (.cells #[.bool cn, .slice ca cL cc, .slice pa pl pc] 27)).alloc (.cells #[.bool false, .slice none 0 0] 24))
    rw [World.size_alloc, World.size_alloc] at h1
    exact h1.keep ((bel _ _).block _ h1.lt)
  have tu : Uno ((((w.alloc (.cells #[.bool cn, .slice ca cL cc, .slice pa pl pc] 27)).alloc (.cells #[.bool false, .slice none 0 0] 24)).alloc (.map #[] 0)).alloc (.cells #[.map (some (w.heap.size + 1 + 1))] 103)) (w.heap.size + 1 + 1 + 1) (.map (some (w.heap.size + 1 + 1))) 103 := by
    have h1 : Uno ((((w.alloc (.cells #[.bool cn, .slice ca cL cc, .slice pa pl pc] 27)).alloc (.cells #[.bool false, .slice none 0 0] 24)).alloc (.map #[] 0)).alloc (.cells #[.map (some (w.heap.size + 1 + 1))] 103)) _ (.map (some (w.heap.size + 1 + 1))) 103 := World.alloc_heap_new (((w.alloc (.cells #[.bool cn, .slice ca cL cc, .slice pa pl pc] 27)).alloc (.cells #[.bool false, .slice none 0 0] 24)).alloc (.map #[] 0)) (.cells #[.map (some (w.heap.size + 1 + 1))] 103)
    rw [World.size_alloc, World.size_alloc, World.size_alloc] at h1
    exact h1
  have hba : Below w.heap.size w ((((w.alloc (.cells #[.bool cn, .slice ca cL cc, .slice pa pl pc] 27)).alloc (.cells #[.bool false, .slice none 0 0] 24)).alloc (.map #[] 0)).alloc (.cells #[.map (some (w.heap.size + 1 + 1))] 103)) := bafter (bel3 w (.cells #[.bool cn, .slice ca cL cc, .slice pa pl pc] 27) (.cells #[.bool false, .slice none 0 0] 24) (.map #[] 0)) (bel _ _) (Nat.le_refl _)
  have hsA : ((((w.alloc (.cells #[.bool cn, .slice ca cL cc, .slice pa pl pc] 27)).alloc (.cells #[.bool false, .slice none 0 0] 24)).alloc (.map #[] 0)).alloc (.cells #[.map (some (w.heap.size + 1 + 1))] 103)).heap.size = w.heap.size + 1 + 1 + 1 + 1 := by rw [World.size_alloc, World.size_alloc, World.size_alloc, World.size_alloc]
  generalize hwA : (((w.alloc (.cells #[.bool cn, .slice ca cL cc, .slice pa pl pc] 27)).alloc (.cells #[.bool false, .slice none 0 0] 24)).alloc (.map #[] 0)).alloc (.cells #[.map (some (w.heap.size + 1 + 1))] 103) = wA at *
  have HSA := hide hsA
  have hback := back_calls wA la Ln lk
  have HT := hide h
  have HR := hide hR
  have HG := hide hG
  have HBD := hide hB
  have HLL := hide hl
  have HWA := hide hwA
  have HBA := hide hba
  have TB := hide tb
  have TZ := hide tz
  have TM := hide tm
  have TU := hide tu
  have HLN := hide hLn
  clear hwA tb tz tm tu hba h hR hG hB hl hsA hLn
  refine calls_of_marks Tryz.func36 rfl ?_
  simp only [Tryz.ntmps36, List.size_toArray, List.length_cons, List.length_nil, Nat.reduceAdd, Nat.reduceSub, Array.replicate_succ, Array.replicate_zero, List.push_toArray, List.append_toArray, List.nil_append, List.cons_append]
  have hmm := @run_makeMap Tryz.prog
  go_upto_region 2 with fail
  clear hmm
  rw [HWA.out]
  go_wp2_with fail
  refine hback.mono ?_
  clear hback
  rintro e w1 ⟨B1, rfl, hu1, hB1, hb1⟩
  have HU1 := hide hu1
  have HB1 := hide hb1
  have HW1 := hide (bafter HBA.out hb1 (Nat.le_refl _))
  have HRW1 := hide (HR.out.below HW1.out)
  have HSZ1 : Hid (w.heap.size + 1 + 1 + 1 < w1.heap.size) := (TU.out.keep hb1).lt
  clear hu1 hB1 hb1
  go_wp2_with fail
  refine (wpIn_wide (n := 3)).1 ?_
  refine range_knownE (gf := 100) (lb := #[.pointer (some ⟨B1, 0, none⟩)]) ?hg (enters_of Tryz.func100 (by kernel_rfl) rfl)
    (back_hands B1 (.slice la Ln lk) L HG.out.sl (by have := HLL.out; omega)) (fun _ => rfl)
    (fun i W => VarsKnow B1 (.slice la Ln lk) L W ∧ Thr W w.heap.size (.bool cn) (.slice ca cL cc) (.slice pa pl pc) 27 ∧ Two W (w.heap.size + 1) (.bool false) (.slice none 0 0) 24 ∧ Uno W (w.heap.size + 1 + 1 + 1) (.map (some (w.heap.size + 1 + 1))) 103)
    (fun _ _ _ => False) (fun i W W' hj hc => ⟨hj.1.cel hc, hc.thr hj.2.1, hc.two hj.2.2.1, hc.uno hj.2.2.2⟩) (fun _ _ _ _ h _ => h.elim)
    (fun i W => MapB W (w.heap.size + 1 + 1) (lookV (L.drop (L.length - i)))) (fun i => kept_map (by have := HSZ1.out; omega)) (fun i W W' h hb => h.keep (hb.block _ h.lt)) w.heap.size w (Nat.le_refl _) HW1.out.size
    (fun i W hj => hj.1) ⟨⟨⟨⟨HU1.out.c0, HRW1.out⟩, TB.out.keep HB1.out, TZ.out.keep HB1.out, TU.out.keep HB1.out⟩, ?start⟩, HW1.out⟩
    (fun i => .cells #[.int .i64 (atP L (L.length - 1 - i)).1, .bool (atP L (L.length - 1 - i)).2.1, (atP L (L.length - 1 - i)).2.2.1] 79) (fun _ => rfl) ?a1 ?assign ?body ?done ?stop
  case hg => rfl
  case start =>
    rw [Nat.sub_zero, List.drop_length, lookV_nil]
    exact TM.out.keep (HB1.out.block _ TM.out.lt)
  case assign =>
    intro l i B W K hi hB hK
    have hj : L.length - 1 - i < L.length := by omega
    obtain ⟨ma, mL, mc, hsl⟩ := HG.out.sl (atP L (L.length - 1 - i)) (by rw [atP_of (List.getElem?_eq_getElem hj)]; exact List.getElem_mem hj)
    unfold backV
    rw [hsl]
    have HSL := hide hsl
    have HBE := hide hB
    generalize hA1 : (atP L (L.length - 1 - i)).1 = vr at *
    generalize hA2 : (atP L (L.length - 1 - i)).2.1 = nb at *
    generalize hA3 : (L.length : Int) - 1 - (i : Int) = ix at *
    have HA1 := hide hA1
    have HA2 := hide hA2
    have HA3 := hide hA3
    clear hsl hB hA1 hA2 hA3 hj
    gi_wp2
    have hsl := HSL.out
    have hB := HBE.out
    have hA1 := HA1.out
    have hA2 := HA2.out
    have hA3 := HA3.out
    rw [hB]
    subst hA1
    subst hA2
    subst hA3
    rw [← hsl]
    exact hK
  case body =>
    rintro l i B W hi ⟨jv, jA, jZ, jU⟩ jX hbw hB hBlt
    have hj : L.length - 1 - i < L.length := by omega
    obtain ⟨⟨vr, nb, mv, cz⟩, hm⟩ : ∃ m, L[L.length - 1 - i]? = some m := ⟨_, List.getElem?_eq_getElem hj⟩
    obtain ⟨ma, mL, mc, e⟩ := HG.out.sl _ (List.mem_of_getElem? hm)
    simp only at e
    subst e
    try dsimp only
    rw [atP_of hm] at hB ⊢
    have hB' : Thr W B (.int .i64 vr) (.bool nb) (.slice ma mL mc) 79 := hB
    have hrg : Rng vr := (HG.out _ (List.mem_of_getElem? hm)).1
    obtain ⟨o, hrun, hoc, hmp⟩ := jX.put hrg (.agg #[.bool nb, .slice ma mL mc])
    have hcel := jX.cel o
    have HMP : Hid (MapB (W.putObj (w.heap.size + 1 + 1) o) (w.heap.size + 1 + 1) (lookV (L.drop (L.length - (i + 1))))) := by
      have h1 := lookV_step hm
      have e1 : L.length - (i + 1) = L.length - 1 - i := by omega
      have e2 : L.length - 1 - i + 1 = L.length - i := by omega
      rw [e2] at h1
      show MapB _ _ _
      rw [e1, h1]
      exact hmp
    obtain ⟨b0, b1, b2, _, _, _⟩ := hB'.every
    have u0 := jU.c0
    have HK1 := hide (show VarsKnow B1 (.slice la Ln lk) L (W.putObj (w.heap.size + 1 + 1) o) from jv.cel hcel)
    have HK2 := hide (hcel.thr jA)
    have HK3 := hide (hcel.two jZ)
    have HK4 := hide (hcel.uno jU)
    have HBW := hide (below_obj hbw (show w.heap.size ≤ w.heap.size + 1 + 1 by omega) o)
    clear jv jA jZ jU jX hbw hB hB' hBlt hm hmp hcel hoc hj
    gi_wp2
    exact ⟨keepsFrom_obj (by have := HSZ1.out; omega) o, ⟨⟨HK1.out, HK2.out, HK3.out, HK4.out⟩, HMP.out⟩, HBW.out⟩
  case done =>
    rintro D W hD ⟨jv, jA, jZ, jU⟩ jX hbw hK
    rw [Nat.sub_self, List.drop_zero] at jX
    have hno := bnorm_calls (HT.out.num.below hbw)
    obtain ⟨a0, a1, a2, _, _, _⟩ := jA.every
    have HJA := hide jA
    have HJZ := hide jZ
    have HJU := hide jU
    have HJX := hide jX
    have HBW := hide hbw
    have HKD := hide hK
    have HD := hide hD
    clear jv jA jZ jU jX hbw hK hD
    go_wp2_with fail
    refine hno.mono ?_
    rintro e w4 ⟨v4, rfl, hr4, hb4⟩
    obtain ⟨sn0, sa0, sL0, sc0, rfl⟩ := hr4.form
    have hbx := bel w4 (.cells #[.bool sn0, .slice sa0 sL0 sc0] 24)
    have HTS := hide (Two.new w4 (.bool sn0) (.slice sa0 sL0 sc0) 24)
    have HRS := hide (hr4.below hbx)
    have HB4 := hide (bafter hb4 hbx (Nat.le_refl _))
    have HW4 := hide (bafter (bafter HBW.out hb4 (Nat.le_refl _)) hbx (Nat.le_refl _))
    have HSG4 : Hid (w.heap.size + 1 + 1 + 1 < w4.heap.size) := (HJU.out.keep hb4).lt
    have hsz4 : (w4.alloc (.cells #[.bool sn0, .slice sa0 sL0 sc0] 24)).heap.size = w4.heap.size + 1 := World.size_alloc _ _
    have HSZ4 := hide hsz4
    clear hno hr4 hb4 hbx a0 a1 a2 hsz4
    go_upto_region 6 with fail
    generalize hw5 : w4.alloc (.cells #[.bool sn0, .slice sa0 sL0 sc0] 24) = w5 at *
    have hvars := vars_calls (HT.out.below HW4.out) (by omega)
    obtain ⟨a0, a1, a2, _, _, _⟩ := (HJA.out.keep HB4.out).every
    clear hw5
    go_wp2_with fail
    refine hvars.mono ?_
    clear hvars a0 a1 a2
    rintro e w3 ⟨B0, M3, a3, l3, k3, rfl, hu3, hB0, ho3, hg3, hn3, hc3, hb3⟩
    have HU3 := hide hu3
    have HO3 := hide ho3
    have HG3 := hide hg3
    have HN3 := hide hn3
    have HC3 := hide hc3
    have HB3 := hide hb3
    have HB43 := hide (bafter HB4.out hb3 (Nat.le_refl _))
    have HW3 := hide (bafter HW4.out hb3 (Nat.le_refl _))
    obtain ⟨bS, hbS⟩ : ∃ bS, w4.heap.size = bS := ⟨_, rfl⟩
    rw [hbS] at HTS HSG4 HSZ4 ⊢
    have HBSG : Hid (w.heap.size + 1 + 1 + 1 < bS) := HSG4.out
    have HBSL : Hid (bS < w3.heap.size) := by have h1 := hb3.size; have h2 := HSZ4.out; show _ < _; omega
    have HL3 : Hid (M3.length ≤ 1000) := by
      have h1 := len_of hn3 hc3
      have h2 := HT.out.len
      show _ ≤ _
      omega
    have HBN : Hid (Bnd (k + 1000) (ps M3)) := fun p hp => lt_up (nf_bnd hn3 hc3 HT.out.bnd.1 p hp) (by rw [ps_length]; have := HT.out.len; omega)
    clear hu3 hB0 ho3 hg3 hn3 hc3 hb3 hbS
    go_wp2_with fail
    refine (wpIn_wide (n := 3)).1 ?_
    refine range_knownE (gf := 74) (lb := #[.pointer (some ⟨B0, 0, none⟩)]) ?hg2 (enters_of Tryz.func74 (by kernel_rfl) rfl)
      (vars_hands B0 (.slice a3 l3 k3) M3 HG3.out.sl (by have := HL3.out; omega)) (fun _ => rfl)
      (fun i W => (Uno W B0 (.slice a3 l3 k3) 25 ∧ RowP W (.slice a3 l3 k3) M3 ∧ GoodR W M3 ∧ Two W (w.heap.size + 1) (.bool false) (.slice none 0 0) 24 ∧ Uno W (w.heap.size + 1 + 1 + 1) (.map (some (w.heap.size + 1 + 1))) 103) ∧ SumAt W bS (c + ev (lookZ L) (ps (M3.take i))))
      (fun _ _ _ => False) (fun i W W' ⟨⟨j1, j2, j3, j4, j7⟩, sn, sa, sL, sc, j5, j6⟩ hc => ⟨⟨hc.uno j1, hc.row j2, j3.k32 hc.k32, hc.two j4, hc.uno j7⟩, sn, sa, sL, sc, hc.two j5, j6.k32 hc.k32⟩) (fun _ _ _ _ h _ => h.elim)
      (fun _ W => MapB W (w.heap.size + 1 + 1) (lookV L) ∧ W.heap[D]? = some (.deferred (some [])))
      (fun _ W W' row h hg hr => ⟨kept_map (by have := HBSG.out; have := HBSL.out; omega) W W' row h.1 hg hr, kept_block (by have h1 := (Array.getElem?_eq_some_iff.1 HKD.out).1; have h2 := HB43.out.size; omega) W W' row h.2 hg hr⟩)
      (fun _ W W' h hb => ⟨h.1.keep (hb.block _ h.1.lt), (hb.block D (Array.getElem?_eq_some_iff.1 h.2).1).trans h.2⟩) w.heap.size w (Nat.le_refl _) HW3.out.size
      (fun i W hj => ⟨hj.1.1.c0, hj.1.2.1⟩) ⟨⟨⟨⟨HU3.out, HO3.out.row, HG3.out, HJZ.out.keep HB43.out, HJU.out.keep HB43.out⟩, _, _, _, _, HTS.out.keep HB3.out, ?start2⟩, HJX.out.keep (HB43.out.block _ HJX.out.lt), (HB43.out.block D (Array.getElem?_eq_some_iff.1 HKD.out).1).trans HKD.out⟩, HW3.out⟩
      (fun i => .cells #[.bool (atP M3 i).2.1, (atP M3 i).2.2.1] 24) (fun _ => rfl) ?a2 ?assign2 ?body2 ?done2 ?stop2
    case hg2 => rfl
    case start2 =>
      show BRes _ _ (c + 0)
      rw [Int.add_zero]
      exact HRS.out.below HB3.out
    case assign2 =>
      intro l i B W K hi hB hK
      obtain ⟨ma, mL, mc, hsl⟩ := HG3.out.sl (atP M3 i) (by rw [atP_of (List.getElem?_eq_getElem hi)]; exact List.getElem_mem hi)
      unfold varV
      rw [hsl]
      have HSL := hide hsl
      have HBE := hide hB
      generalize hA1 : (atP M3 i).1 = vr at *
      generalize hA2 : (atP M3 i).2.1 = nb at *
      have HA1 := hide hA1
      have HA2 := hide hA2
      clear hsl hB hA1 hA2
      gi_wp2
      have hsl := HSL.out
      have hB := HBE.out
      have hA1 := HA1.out
      have hA2 := HA2.out
      rw [hB]
      subst hA1
      subst hA2
      rw [← hsl]
      exact hK
    case body2 =>
      rintro l i B W hi ⟨⟨j1, j2, j3, j4, j7⟩, sn, sa, sL, sc, j5, j6⟩ ⟨jX, jD⟩ hbw hB hBlt
      obtain ⟨⟨vr, nb, mv, cz⟩, hm⟩ : ∃ m, M3[i]? = some m := ⟨_, List.getElem?_eq_getElem hi⟩
      obtain ⟨ma, mL, mc, e⟩ := HG3.out.sl _ (List.mem_of_getElem? hm)
      simp only at e
      subst e
      try dsimp only
      rw [atP_of hm] at hB ⊢
      have hB' : Two W B (.bool nb) (.slice ma mL mc) 24 := hB
      obtain ⟨lb, ba, bL, bc, hlk⟩ := look_form HG.out vr
      have hrg : Rng vr := (j3 _ (List.mem_of_getElem? hm)).1
      have hcb : cz.natAbs < R ^ (k + 1000) := HBN.out (vr, cz) (List.mem_map.2 ⟨_, List.mem_of_getElem? hm, rfl⟩)
      have hlg := look_arg (HG.out.below hbw) vr
      rw [hlk] at hlg
      have HMUL := hide (fun (Y : World) (hY : Below W.heap.size W Y) => bmul_calls (((j3 _ (List.mem_of_getElem? hm)).2.arg hcb (by omega)).below hY) (hlg.below hY))
      have HPB : Hid ((cz * lookZ L vr).natAbs < R ^ (k + 1000 + k)) := bl_mul hcb (look_bnd HBD.out vr)
      have HSB : Hid ((c + ev (lookZ L) (ps (M3.take i))).natAbs < R ^ (k + 1000 + k + 1000 + 1)) := by
        refine pl_add (lt_up HT.out.bnd.2 (by omega)) (lt_up (ev_bnd (k := k + 1000) (look_bnd HBD.out) (fun p hp => HBN.out p (by
          unfold ps at hp ⊢
          rw [List.map_take] at hp
          exact List.mem_of_mem_take hp))) ?_)
        have h9 : (ps (M3.take i)).length ≤ 1000 := by rw [ps_length, List.length_take]; have := HL3.out; omega
        omega
      have HEV : Hid (c + ev (lookZ L) (ps (M3.take (i + 1))) = c + ev (lookZ L) (ps (M3.take i)) + cz * lookZ L vr) := by
        show _ = _
        rw [ev_take hm]
        show c + (_ + cz * lookZ L vr) = _
        omega
      generalize hzl : lookZ L vr = zl at *
      generalize hzs : c + ev (lookZ L) (ps (M3.take i)) = zs at *
      have J1 := hide j1
      have J2 := hide j2
      have J3 := hide j3
      have J4 := hide j4
      have J5 := hide j5
      have J6 := hide j6
      have J7 := hide j7
      have HMP := hide jX
      have HDF := hide jD
      have HBW := hide hbw
      have HBB := hide hB'
      have HBL := hide hBlt
      have HRGV := hide hrg
      have HLK := hide hlk
      have HS : Hid (∀ Y : World, Below W.heap.size W Y → Y.cell? ⟨B, 0, none⟩ = some (.bool nb) ∧ Y.cell? ⟨B, 1, none⟩ = some (.slice ma mL mc) ∧ Y.cell? ⟨w.heap.size + 1 + 1 + 1, 0, none⟩ = some (.map (some (w.heap.size + 1 + 1))) ∧ (Instr.lookup 103 (.map (some (w.heap.size + 1 + 1))) (.int .i64 vr) false).run Tryz.prog Y = .ok (.agg #[.bool lb, .slice ba bL bc]) Y) := fun Y hY => by
        have h9 := (HMP.out.keep (hY.block _ HMP.out.lt)).look HRGV.out
        rw [HLK.out] at h9
        exact ⟨(HBB.out.keep hY).c0, (HBB.out.keep hY).c1, (J7.out.keep hY).c0, h9⟩
      clear hm j1 j2 j3 j4 j5 j6 j7 jX jD hbw hB hB' hBlt hrg hlk hcb hlg hzl hzs
      gi_wp2
      refine round_any 1 l (by kernel_rfl) (no_defer (by simp)) (by rintro ⟨_, _, h⟩; exact h) (wpAny_of_held (S := fun Y : World => Y.cell? ⟨B, 0, none⟩ = some (.bool nb) ∧ Y.cell? ⟨B, 1, none⟩ = some (.slice ma mL mc) ∧ Y.cell? ⟨w.heap.size + 1 + 1 + 1, 0, none⟩ = some (.map (some (w.heap.size + 1 + 1))) ∧ (Instr.lookup 103 (.map (some (w.heap.size + 1 + 1))) (.int .i64 vr) false).run Tryz.prog Y = .ok (.agg #[.bool lb, .slice ba bL bc]) Y) _ _ _ _ ?_)
      have hHeld : (fun Y : World => Y.cell? ⟨B, 0, none⟩ = some (.bool nb) ∧ Y.cell? ⟨B, 1, none⟩ = some (.slice ma mL mc) ∧ Y.cell? ⟨w.heap.size + 1 + 1 + 1, 0, none⟩ = some (.map (some (w.heap.size + 1 + 1))) ∧ (Instr.lookup 103 (.map (some (w.heap.size + 1 + 1))) (.int .i64 vr) false).run Tryz.prog Y = .ok (.agg #[.bool lb, .slice ba bL bc]) Y) W.drew := HS.out _ ((Below.refl _ _).drew)
      refine takeD (i := 1) (v := ?v1) (some 29) rfl (by kernel_rfl) (by kernel_rfl) (by kernel_rfl) (fun _ _ _ h => h) (Or.inl ⟨by rfl, ?hy1⟩) (by assumption) (by rfl) ?rest1
      case hy1 => first | (intro w hSw; (try dsimp only at hSw); obtain ⟨q0, q1, q2, q3⟩ := hSw; go_simp; done) | (intro w hSw; (try dsimp only at hSw); obtain ⟨q0, q1, q2, q3⟩ := hSw; go_simp; with_reducible rfl)
      try simp only [Act.put, List.setIfInBounds_toArray, List.set_cons_zero, List.set_cons_succ]
      refine takeD (i := 2) (v := ?v2) (some 30) rfl (by kernel_rfl) (by kernel_rfl) (by kernel_rfl) (fun _ _ _ h => h) (Or.inl ⟨by rfl, ?hy2⟩) (by assumption) (by rfl) ?rest2
      case hy2 => first | (intro w hSw; (try dsimp only at hSw); obtain ⟨q0, q1, q2, q3⟩ := hSw; go_simp; done) | (intro w hSw; (try dsimp only at hSw); obtain ⟨q0, q1, q2, q3⟩ := hSw; go_simp; with_reducible rfl)
      try simp only [Act.put, List.setIfInBounds_toArray, List.set_cons_zero, List.set_cons_succ]
      refine takeD (i := 3) (v := ?v3) (some 31) rfl (by kernel_rfl) (by kernel_rfl) (by kernel_rfl) (fun _ _ _ h => h) (Or.inl ⟨by rfl, ?hy3⟩) (by assumption) (by rfl) ?rest3
      case hy3 => first | (intro w hSw; (try dsimp only at hSw); obtain ⟨q0, q1, q2, q3⟩ := hSw; go_simp; done) | (intro w hSw; (try dsimp only at hSw); obtain ⟨q0, q1, q2, q3⟩ := hSw; go_simp; with_reducible rfl)
      try simp only [Act.put, List.setIfInBounds_toArray, List.set_cons_zero, List.set_cons_succ]
      refine takeD (i := 4) (v := ?v4) (some 32) rfl (by kernel_rfl) (by kernel_rfl) (by kernel_rfl) (fun _ _ _ h => h) (Or.inl ⟨by rfl, ?hy4⟩) (by assumption) (by rfl) ?rest4
      case hy4 => first | (intro w hSw; (try dsimp only at hSw); obtain ⟨q0, q1, q2, q3⟩ := hSw; go_simp; done) | (intro w hSw; (try dsimp only at hSw); obtain ⟨q0, q1, q2, q3⟩ := hSw; go_simp; with_reducible rfl)
      try simp only [Act.put, List.setIfInBounds_toArray, List.set_cons_zero, List.set_cons_succ]
      refine wpAnyH_ready (rs := [0, 5]) (by kernel_rfl) (by simp) ?_
      refine AllReadyH.cons rfl (fun K hK => ?_) (AllReadyH.cons rfl (fun K hK => ?_) AllReadyH.nil)
      · obtain ⟨s0, s1, _, _, _, _⟩ := (J5.out.keep (by first | exact (Below.refl _ W) | exact ((Below.refl _ W)).drew)).every
        go_simp
        refine hK.out _ _ (HS.out _ (by first | exact (Below.refl _ W) | exact ((Below.refl _ W)).drew)) (fun hHeld => ?_)
        clear hK K
        try simp only [Act.put, List.setIfInBounds_toArray, List.set_cons_zero, List.set_cons_succ]
        clear s0 s1
        refine wpAnyH_ready (rs := [5]) (by kernel_rfl) (by simp) ?_
        refine AllReadyH.cons rfl (fun K hK => ?_) AllReadyH.nil
        go_simp
        refine (HMUL.out _ (by first | exact (Below.refl _ W) | exact ((Below.refl _ W)).drew)).mono ?_
        rintro e w4 ⟨v4, rfl, hr4, hb4⟩
        obtain ⟨pb, pa4, pL, pk, rfl⟩ := hr4.form
        have HB4 : Hid (Below W.heap.size W w4) := bafter (by first | exact (Below.refl _ W) | exact ((Below.refl _ W)).drew) hb4 (Nat.le_refl _)
        have HR4 := hide hr4
        clear hr4 hb4 hHeld
        go_wp2_with fail
        refine hK.out _ _ (HS.out _ HB4.out) (fun hHeld => ?_)
        clear hK K
        try simp only [Act.put, List.setIfInBounds_toArray, List.set_cons_zero, List.set_cons_succ]
        refine wpAnyH_ready (rs := [6]) (by kernel_rfl) (by simp) ?_
        refine AllReadyH.cons rfl (fun K hK => ?_) AllReadyH.nil
        go_simp
        refine (badd_calls ((J6.out.below HB4.out).arg HSB.out (by omega)) (HR4.out.arg HPB.out (by omega))).mono ?_
        rintro e w5 ⟨v5, rfl, hr5, hb5⟩
        obtain ⟨rb, ra, rL, rc, rfl⟩ := hr5.form
        have HB5 : Hid (Below W.heap.size W w5) := bafter HB4.out hb5 (Nat.le_refl _)
        have HR5 := hide hr5
        clear hr5 hb5 hHeld
        go_wp2_with fail
        refine hK.out _ _ (HS.out _ HB5.out) (fun hHeld => ?_)
        clear hK K
        try simp only [Act.put, List.setIfInBounds_toArray, List.set_cons_zero, List.set_cons_succ]
        have HT5 := hide (J5.out.keep HB5.out)
        obtain ⟨p0, p1, p2, p3, _, _⟩ := HT5.out.every
        have hbut := HT5.out.but (.bool rb) (.slice ra rL rc)
        have HS5 : Hid (let Y := (w5.setCell ⟨bS, 0, none⟩ (.bool rb)).setCell ⟨bS, 1, none⟩ (.slice ra rL rc); Y.cell? ⟨B, 0, none⟩ = some (.bool nb) ∧ Y.cell? ⟨B, 1, none⟩ = some (.slice ma mL mc) ∧ Y.cell? ⟨w.heap.size + 1 + 1 + 1, 0, none⟩ = some (.map (some (w.heap.size + 1 + 1))) ∧ (Instr.lookup 103 (.map (some (w.heap.size + 1 + 1))) (.int .i64 vr) false).run Tryz.prog Y = .ok (.agg #[.bool lb, .slice ba bL bc]) Y) := by
          obtain ⟨h1, h2, h3, h4⟩ := HS.out _ HB5.out
          have hne1 : B ≠ bS := by have := HBL.out; have := HBSL.out; omega
          have hne2 : w.heap.size + 1 + 1 + 1 ≠ bS := by have := HBSG.out; omega
          have hne3 : (w.heap.size + 1 + 1) ≠ bS := by have := HBSG.out; omega
          refine ⟨(World.cell?_of_block (a := ⟨B, 0, none⟩) (hbut.same B hne1)).trans h1, (World.cell?_of_block (a := ⟨B, 1, none⟩) (hbut.same B hne1)).trans h2, (World.cell?_of_block (hbut.same _ hne2)).trans h3, ?_⟩
          have hmp := (HMP.out.keep (HB5.out.block _ HMP.out.lt)).keep (hbut.same _ hne3)
          have h9 := hmp.look HRGV.out
          rw [HLK.out] at h9
          exact h9
        clear hbut
        refine wpAnyH_ready (rs := [7]) (by kernel_rfl) (by simp) ?_
        refine AllReadyH.cons rfl (fun K hK => ?_) AllReadyH.nil
        go_simp
        refine hK.out _ _ (HS5.out) (fun hHeld => ?_)
        clear hK K hHeld
        try simp only [Act.put, List.setIfInBounds_toArray, List.set_cons_zero, List.set_cons_succ]
        refine wpAnyH_done (by kernel_rfl) ?_ _
        (try simp only [Exit.then])
        clear p0 p1 p2 p3
        gi_wp2
        have hbut := HT5.out.but (.bool rb) (.slice ra rL rc)
        have hne2 : w.heap.size + 1 + 1 + 1 ≠ bS := by have := HBSG.out; omega
        have hne3 : (w.heap.size + 1 + 1) ≠ bS := by have := HBSG.out; omega
        have hne4 : w.heap.size + 1 ≠ bS := by have := HBSG.out; omega
        refine ⟨((keepsFrom_of HB5.out).trans (((KeepsOthers.setCell _ _ _).trans (KeepsOthers.setCell _ _ _)).from _)), ⟨⟨⟨?_, hbut.row (J2.out.below HB5.out), (J3.out.below HB5.out).k32 hbut.k32, (hbut.same _ hne4).trans (J4.out.keep HB5.out), (hbut.same _ hne2).trans (J7.out.keep HB5.out)⟩, rb, ra, rL, rc, HT5.out.put _ _, ?_⟩, (HMP.out.keep (HB5.out.block _ HMP.out.lt)).keep (hbut.same _ hne3), ?_⟩, below_put (bafter HBW.out HB5.out (Nat.le_refl _)) (by have := HBSG.out; omega) _ _⟩
        · exact (hbut.same B0 (by
            intro e
            have h1 := J1.out.keep HB5.out
            rw [e] at h1
            exact absurd (h1.symm.trans HT5.out) (by simp))).trans (J1.out.keep HB5.out)
        · rw [HEV.out]
          exact HR5.out.put HT5.out (.bool rb) (.slice ra rL rc)
        · exact ((KeepsOthers.setCell w5 ⟨bS, 0, none⟩ (.bool rb)).trans (KeepsOthers.setCell _ ⟨bS, 1, none⟩ (.slice ra rL rc))).same D _ ((HB5.out.block D (Array.getElem?_eq_some_iff.1 HDF.out).1).trans HDF.out) rfl
      · go_simp
        refine (HMUL.out _ (by first | exact (Below.refl _ W) | exact ((Below.refl _ W)).drew)).mono ?_
        rintro e w4 ⟨v4, rfl, hr4, hb4⟩
        obtain ⟨pb, pa4, pL, pk, rfl⟩ := hr4.form
        have HB4 : Hid (Below W.heap.size W w4) := bafter (by first | exact (Below.refl _ W) | exact ((Below.refl _ W)).drew) hb4 (Nat.le_refl _)
        have HR4 := hide hr4
        clear hr4 hb4 hHeld
        go_wp2_with fail
        refine hK.out _ _ (HS.out _ HB4.out) (fun hHeld => ?_)
        clear hK K
        try simp only [Act.put, List.setIfInBounds_toArray, List.set_cons_zero, List.set_cons_succ]
        refine wpAnyH_ready (rs := [0]) (by kernel_rfl) (by simp) ?_
        refine AllReadyH.cons rfl (fun K hK => ?_) AllReadyH.nil
        obtain ⟨s0, s1, _, _, _, _⟩ := (J5.out.keep (by first | exact HB4.out | exact (HB4.out).drew)).every
        go_simp
        refine hK.out _ _ (HS.out _ (by first | exact HB4.out | exact (HB4.out).drew)) (fun hHeld => ?_)
        clear hK K
        try simp only [Act.put, List.setIfInBounds_toArray, List.set_cons_zero, List.set_cons_succ]
        clear s0 s1
        refine wpAnyH_ready (rs := [6]) (by kernel_rfl) (by simp) ?_
        refine AllReadyH.cons rfl (fun K hK => ?_) AllReadyH.nil
        go_simp
        refine (badd_calls ((J6.out.below HB4.out).arg HSB.out (by omega)) (HR4.out.arg HPB.out (by omega))).mono ?_
        rintro e w5 ⟨v5, rfl, hr5, hb5⟩
        obtain ⟨rb, ra, rL, rc, rfl⟩ := hr5.form
        have HB5 : Hid (Below W.heap.size W w5) := bafter HB4.out hb5 (Nat.le_refl _)
        have HR5 := hide hr5
        clear hr5 hb5 hHeld
        go_wp2_with fail
        refine hK.out _ _ (HS.out _ HB5.out) (fun hHeld => ?_)
        clear hK K
        try simp only [Act.put, List.setIfInBounds_toArray, List.set_cons_zero, List.set_cons_succ]
        have HT5 := hide (J5.out.keep HB5.out)
        obtain ⟨p0, p1, p2, p3, _, _⟩ := HT5.out.every
        have hbut := HT5.out.but (.bool rb) (.slice ra rL rc)
        have HS5 : Hid (let Y := (w5.setCell ⟨bS, 0, none⟩ (.bool rb)).setCell ⟨bS, 1, none⟩ (.slice ra rL rc); Y.cell? ⟨B, 0, none⟩ = some (.bool nb) ∧ Y.cell? ⟨B, 1, none⟩ = some (.slice ma mL mc) ∧ Y.cell? ⟨w.heap.size + 1 + 1 + 1, 0, none⟩ = some (.map (some (w.heap.size + 1 + 1))) ∧ (Instr.lookup 103 (.map (some (w.heap.size + 1 + 1))) (.int .i64 vr) false).run Tryz.prog Y = .ok (.agg #[.bool lb, .slice ba bL bc]) Y) := by
          obtain ⟨h1, h2, h3, h4⟩ := HS.out _ HB5.out
          have hne1 : B ≠ bS := by have := HBL.out; have := HBSL.out; omega
          have hne2 : w.heap.size + 1 + 1 + 1 ≠ bS := by have := HBSG.out; omega
          have hne3 : (w.heap.size + 1 + 1) ≠ bS := by have := HBSG.out; omega
          refine ⟨(World.cell?_of_block (a := ⟨B, 0, none⟩) (hbut.same B hne1)).trans h1, (World.cell?_of_block (a := ⟨B, 1, none⟩) (hbut.same B hne1)).trans h2, (World.cell?_of_block (hbut.same _ hne2)).trans h3, ?_⟩
          have hmp := (HMP.out.keep (HB5.out.block _ HMP.out.lt)).keep (hbut.same _ hne3)
          have h9 := hmp.look HRGV.out
          rw [HLK.out] at h9
          exact h9
        clear hbut
        refine wpAnyH_ready (rs := [7]) (by kernel_rfl) (by simp) ?_
        refine AllReadyH.cons rfl (fun K hK => ?_) AllReadyH.nil
        go_simp
        refine hK.out _ _ (HS5.out) (fun hHeld => ?_)
        clear hK K hHeld
        try simp only [Act.put, List.setIfInBounds_toArray, List.set_cons_zero, List.set_cons_succ]
        refine wpAnyH_done (by kernel_rfl) ?_ _
        (try simp only [Exit.then])
        clear p0 p1 p2 p3
        gi_wp2
        have hbut := HT5.out.but (.bool rb) (.slice ra rL rc)
        have hne2 : w.heap.size + 1 + 1 + 1 ≠ bS := by have := HBSG.out; omega
        have hne3 : (w.heap.size + 1 + 1) ≠ bS := by have := HBSG.out; omega
        have hne4 : w.heap.size + 1 ≠ bS := by have := HBSG.out; omega
        refine ⟨((keepsFrom_of HB5.out).trans (((KeepsOthers.setCell _ _ _).trans (KeepsOthers.setCell _ _ _)).from _)), ⟨⟨⟨?_, hbut.row (J2.out.below HB5.out), (J3.out.below HB5.out).k32 hbut.k32, (hbut.same _ hne4).trans (J4.out.keep HB5.out), (hbut.same _ hne2).trans (J7.out.keep HB5.out)⟩, rb, ra, rL, rc, HT5.out.put _ _, ?_⟩, (HMP.out.keep (HB5.out.block _ HMP.out.lt)).keep (hbut.same _ hne3), ?_⟩, below_put (bafter HBW.out HB5.out (Nat.le_refl _)) (by have := HBSG.out; omega) _ _⟩
        · exact (hbut.same B0 (by
            intro e
            have h1 := J1.out.keep HB5.out
            rw [e] at h1
            exact absurd (h1.symm.trans HT5.out) (by simp))).trans (J1.out.keep HB5.out)
        · rw [HEV.out]
          exact HR5.out.put HT5.out (.bool rb) (.slice ra rL rc)
        · exact ((KeepsOthers.setCell w5 ⟨bS, 0, none⟩ (.bool rb)).trans (KeepsOthers.setCell _ ⟨bS, 1, none⟩ (.slice ra rL rc))).same D _ ((HB5.out.block D (Array.getElem?_eq_some_iff.1 HDF.out).1).trans HDF.out) rfl
    case done2 =>
      rintro D2 W6 hD2 ⟨⟨j1, j2, j3, j4, j7⟩, sn, sa, sL, sc, j5, j6⟩ ⟨jX, jD⟩ hbw hK2
      rw [List.take_length, ev_same (lookZ L) HC3.out] at j6
      obtain ⟨s0, s1, _, _, _, _⟩ := j5.every
      obtain ⟨r0, r1, r2, r3, _, _⟩ := j4.every
      have J4 := hide j4
      have J6 := hide j6
      have HDF := hide jD
      have HBW6 := hide hbw
      have HK2 := hide hK2
      have HD2 := hide hD2
      clear j1 j2 j3 j4 j5 j6 j7 jX jD hbw hK2 hD2
      go_wp2
      have q1 := ((KeepsOthers.setCell W6 ⟨w.heap.size + 1, 0, none⟩ (.bool sn)).trans (KeepsOthers.setCell _ ⟨w.heap.size + 1, 1, none⟩ (.slice sa sL sc))).same D2 _ HK2.out rfl
      have q0 := ((KeepsOthers.setCell W6 ⟨w.heap.size + 1, 0, none⟩ (.bool sn)).trans (KeepsOthers.setCell _ ⟨w.heap.size + 1, 1, none⟩ (.slice sa sL sc))).same D _ HDF.out rfl
      have hne : D ≠ D2 := by
        intro e
        have h1 := (Array.getElem?_eq_some_iff.1 HKD.out).1
        have h2 := HD2.out
        have h3 := HB43.out.size
        omega
      have q0' := (World.putObj_heap_other (o := .deferred none) hne).trans q0
      refine ⟨by simp, .inl ⟨_, _, rfl, run_takeDeferred q1, ?_⟩⟩
      refine ⟨by simp, .inl ⟨_, _, rfl, run_takeDeferred q0', ?_⟩⟩
      have hcel1 := cel_put (.deferred none) q1 rfl
      have hcel2 := cel_put (.deferred none) q0' rfl
      refine ⟨_, results_big rfl rfl (hcel2.two (hcel1.two (J4.out.put _ _))), ?_⟩
      exact ⟨_, rfl, ((J6.out.put J4.out _ _).k32 hcel1.k32).k32 hcel2.k32, ((below_put HBW6.out (by omega) _ _).trans (belowK_b (w := w) (Nat.le_refl _) _ D2 _ _ (by have h1 := HD2.out; have h3 := HW3.out.size; omega) q1 rfl rfl)).trans (belowK_b (w := w) (Nat.le_refl _) _ D _ _ (by have h1 := HD.out; have h3 := HW1.out.size; omega) q0' rfl rfl)⟩
    case stop2 => exact fun D c k W hD hk h _ hb hK => h.elim
  case stop => exact fun D c k W hD hk h _ hb hK => h.elim

end Go.Proofs.YtkdhcpfmlelfcaaGreatDoor

namespace Go.Proofs.YtkdhcpfmlelfcaaGreatDoor
set_option linter.unusedVariables false
set_option linter.unusedSimpArgs false
set_option maxRecDepth 100000
open Go Go.RowKit Go.Shelf Go.Lib

theorem infoRBind : (Tryz.prog.info? 102).map (fun i => (i.zero, i.size, i.bytes)) = some (some (.agg #[.int .i64 0, .bool false, .slice none 0 0]), 3, 40) := by kernel_rfl
/-- A row of parts of one's own. -/
def OwnW (n₀ : Nat) (W : World) (v : Value) (M : List Pt) : Prop := OwnZ W n₀ 102 zPart v M.length (pcells M)
theorem OwnW.nil (n₀ : Nat) (W : World) : OwnW n₀ W (.slice none 0 0) [] := ownZ_nil _ _ _ _
theorem OwnW.len {n₀ : Nat} {W : World} {v : Value} {M : List Pt} (h : OwnW n₀ W v M) : ∃ ao cap, v = .slice ao M.length cap ∧ M.length ≤ cap ∧ cap ≤ maxLen := by
  rcases h.1.2 with ⟨hv, hn⟩ | ⟨g, cap, cur, hv, hg, hh, hc1, hc2, hc3⟩
  · exact ⟨none, 0, by rw [hv, hn], by omega, by simp [maxLen]⟩
  · exact ⟨_, _, hv, hc1, hc2⟩
theorem OwnW.row {n₀ : Nat} {W : World} {v : Value} {M : List Pt} (h : OwnW n₀ W v M) : RowP W v M := by
  rcases h.1.2 with ⟨hv, hn⟩ | ⟨g, cap, cur, hv, hg, hh, hc1, hc2, hc3⟩
  · refine ⟨none, 0, by rw [hv, hn], by omega, by simp [maxLen], fun j t hj => ?_⟩
    have : M = [] := List.length_eq_zero_iff.1 hn
    rw [this] at hj
    simp at hj
  · subst hv
    refine ⟨some ⟨g, 0, none⟩, cap, rfl, hc1, hc2, fun j m hj => ⟨g, 0, rfl, ?_⟩⟩
    have hlt : j < M.length := (List.getElem?_eq_some_iff.1 hj).1
    have c := fun i (hi : i < 3) => (h.1.cellAt (j * 3 + i) (by rw [zPart_size]; omega)).trans (pcells_get M j m hj i hi)
    simp only [Nat.zero_add]
    exact ⟨c 0 (by omega), c 1 (by omega), c 2 (by omega)⟩
theorem OwnW.lt {n₀ : Nat} {W : World} {v : Value} {M : List Pt} (h : OwnW n₀ W v M) {j : Nat} (hj : v.ownBlock = some j) : n₀ ≤ j ∧ j < W.heap.size := World.ownsRow.lt h.1 j hj
theorem OwnW.block {n₀ : Nat} {W W' : World} {v : Value} {M : List Pt} (h : OwnW n₀ W v M) (hk : ∀ k, v.ownBlock = some k → W'.heap[k]? = W.heap[k]?) : OwnW n₀ W' v M := by
  refine ⟨⟨h.1.1, ?_⟩, fun g i u hg hi hc => ?_⟩
  · rcases h.1.2 with hn | ⟨g, cap, cur, hv, h1, h2, h3⟩
    · exact .inl hn
    · exact .inr ⟨g, cap, cur, hv, h1, (hk g (by rw [hv]; rfl)).trans h2, h3⟩
  · rw [World.cell?_of_block (a := ⟨g, i, none⟩) (hk g hg)] at hc
    exact h.2 g i u hg hi hc
theorem OwnW.below {n₀ : Nat} {W W' : World} {v : Value} {M : List Pt} (h : OwnW n₀ W v M) (hb : Below W.heap.size W W') : OwnW n₀ W' v M :=
  h.block (fun k hk => hb.block k (h.lt hk).2)

/-- A number's digits reach into no row's room. -/
theorem keptW_kr {n₀ : Nat} {w w' : World} {v : Value} {M : List Pt} (hown : OwnW n₀ w v M) (h : KeptZ w w' zPart v.ownBlock (M.length * zPart.cells.size)) : KR w w' := by
  rintro dv n ⟨ds, ⟨ao, cap, e, h1, h2, h3⟩, hc⟩
  refine ⟨ds, ⟨ao, cap, e, h1, h2, fun j hj => ?_⟩, hc⟩
  obtain ⟨bb, off, e2, hcell⟩ := h3 j hj
  refine ⟨bb, off, e2, h _ _ hcell ?_⟩
  by_cases hrow : v.ownBlock = some bb
  · refine .inr (.inr ?_)
    rcases Nat.lt_or_ge (off + j) (M.length * zPart.cells.size) with hl | hl
    · exact hl
    · exfalso
      have h0 : ds ≠ [] := by rintro rfl; simp at hj
      have hlast := last_tl h0 hc.1.2
      obtain ⟨b2, off2, e3, hcell2⟩ := h3 (ds.length - 1) (by omega)
      rw [e2] at e3
      cases e3
      have hz := hown.2 bb (off + (ds.length - 1)) _ hrow (by omega) hcell2
      simp [zPart, Value.cells] at hz
      omega
  · exact .inr (.inl (fun e => hrow e))
/-- Appending parts to such a row. -/
theorem run_appW (w : World) (n₀ : Nat) (ty : TypeId) (v : Value) (M : List Pt) (hown : OwnW n₀ w v M) (xv : Value) (N : List Pt) (hN : RowP w xv N) (hone : ∀ m ∈ N, m.2.2.1.oneCell' = true) (hl : M.length + N.length ≤ 1048576) (hbase : n₀ ≤ w.heap.size) :
    ∃ v' w', (Builtin.append_ #[61, 61] ty #[v, xv]).run Tryz.prog w = .ok v' w' ∧ OwnW n₀ w' v' (M ++ N) ∧ w.grownBy w' v.ownBlock ∧ (v'.ownBlock = v.ownBlock ∨ v'.ownBlock = some w.heap.size) ∧ KR w w' := by
  obtain ⟨i0, hi, hz0, hz1, hz2⟩ := info_parts infoRBind
  obtain ⟨ao, cap, rfl, h1, h2, h3⟩ := hN
  cases ao with
  | none =>
    have hd0 : N = [] := by
      cases N with
      | nil => rfl
      | cons y r => obtain ⟨b, off, e, _⟩ := h3 0 y rfl; cases e
    subst hd0
    refine ⟨v, w, ?_, by rw [List.append_nil]; exact hown, ⟨rfl, rfl, rfl, Nat.le_refl _, fun _ _ _ => rfl⟩, .inl rfl, KR.refl _⟩
    rcases hown.1.2 with ⟨rfl, h0⟩ | ⟨g, cp, cur, rfl, _, _, hnc, _⟩
    · simp [Builtin.append_, run_underlying Tryz.underlying61, sizeOf, typeInfo, hi, Builtin.lenOf, Builtin.firstCells]
    · simp [Builtin.append_, run_underlying Tryz.underlying61, sizeOf, typeInfo, hi, Builtin.lenOf, Builtin.firstCells, hnc, storeCells]
  | some ad =>
    by_cases hN0 : N = []
    · subst hN0
      obtain ⟨v', w', hr, ho, hg, ha, hk⟩ := run_appZ (P := Tryz.prog) w n₀ 61 ty 102 i0 zPart 40 Tryz.underlying61 hi hz0 hz1 hz2 (by decide) v M.length (pcells M) hown ad 0 cap [] rfl (fun j u h => by simp at h) (fun u h => by cases h) (by unfold maxLen; simp at hl; omega) (by simp at hl; omega) hbase
      exact ⟨v', w', hr, by rw [List.append_nil]; unfold OwnW; simpa using ho, hg, ha, keptW_kr hown hk⟩
    · have had : ad.spot = none := by
        obtain ⟨y, r, rfl⟩ : ∃ y r, N = y :: r := by cases N with | nil => exact absurd rfl hN0 | cons y r => exact ⟨y, r, rfl⟩
        obtain ⟨b, off, e, _⟩ := h3 0 y rfl
        cases e
        rfl
      have hq1 : ∀ (j : Nat) (u : Value), (pcells N)[j]? = some u → w.cell? (ad.add j) = some u := by
        intro j u hj
        have hjl : j < N.length * 3 := by rw [← pcells_length]; exact (List.getElem?_eq_some_iff.1 hj).1
        have hq : j / 3 < N.length := by omega
        obtain ⟨b, off, e, hc⟩ := h3 (j / 3) N[j / 3] (List.getElem?_eq_getElem hq)
        cases e
        have hget := pcells_get N (j / 3) N[j / 3] (List.getElem?_eq_getElem hq) (j % 3) (Nat.mod_lt _ (by decide))
        rw [show j / 3 * 3 + j % 3 = j by omega, hj] at hget
        rw [addr_add]
        have h3' : j % 3 = 0 ∨ j % 3 = 1 ∨ j % 3 = 2 := by omega
        rcases h3' with e | e | e
        · rw [e] at hget
          rw [show off + j = off + j / 3 * 3 by omega, hc.1, hget]; rfl
        · rw [e] at hget
          rw [show off + j = off + j / 3 * 3 + 1 by omega, hc.2.1, hget]; rfl
        · rw [e] at hget
          rw [show off + j = off + j / 3 * 3 + 2 by omega, hc.2.2, hget]; rfl
      have hq2 : ∀ u ∈ pcells N, u.oneCell' = true := by
        intro u hu
        obtain ⟨m, hm, hu2⟩ := List.mem_flatMap.1 hu
        simp only [ptCells, List.mem_cons, List.mem_nil_iff, or_false] at hu2
        rcases hu2 with rfl | rfl | rfl
        · rfl
        · rfl
        · exact hone m hm
      obtain ⟨v', w', hr, ho, hg, ha, hk⟩ := run_appZ (P := Tryz.prog) w n₀ 61 ty 102 i0 zPart 40 Tryz.underlying61 hi hz0 hz1 hz2 (by decide) v M.length (pcells M) hown ad N.length cap (pcells N) (pcells_length N) hq1 hq2 (by unfold maxLen; omega) (by omega) hbase
      exact ⟨v', w', hr, by unfold OwnW; rw [List.length_append, pcells_append]; exact ho, hg, ha, keptW_kr hown hk⟩

theorem row_litW (W : World) (a : Int) (b : Bool) (c : Value) (z : Int) : RowP (W.alloc (.cells #[.int .i64 a, .bool b, c] 102)) (.slice (some ⟨W.heap.size, 0, none⟩) 1 1) [(a, b, c, z)] := by
  refine ⟨some ⟨W.heap.size, 0, none⟩, 1, rfl, Nat.le_refl _, by simp [maxLen], fun j m hj => ?_⟩
  cases j with
  | zero =>
    simp at hj
    subst hj
    exact ⟨_, _, rfl, World.cell?_alloc_mark W _ _ (0, 0) 0, World.cell?_alloc_mark W _ _ (0, 0) 1, World.cell?_alloc_mark W _ _ (0, 0) 2⟩
  | succ j => simp at hj

/-- Few bindings, of small numbers. -/
def BindP (L : List Pt) : Prop := L.length ≤ 13 ∧ ∀ m ∈ L, lenV m.2.2.1 ≤ 4
def BindE (w : World) (L : List Pt) (e : Ending) (w' : World) : Prop := ∃ a l c ok, e = .returned (.tuple #[.slice a l c, .bool ok]) ∧ (ok = true ↔ BindP L) ∧ (ok = true → ∃ X, RowP w' (.slice a l c) X ∧ GoodN w' X ∧ ps X = ps L) ∧ Below w.heap.size w w'

set_option maxHeartbeats 8000000 in
theorem bindings_calls {w : World} {pa : Option Addr} {pl pc : Nat} {L : List Pt} (hR : RowP w (.slice pa pl pc) L) (hS : Sl L) (hI : ∀ m ∈ L, Rng m.1 ∧ (lenV m.2.2.1 ≤ 4 → Lim 8 w m)) :
    Calls Tryz.prog 35 #[.slice pa pl pc] w fun e w' => BindE w L e w' := by
  obtain ⟨_, _, e, _, _, h3⟩ := hR
  simp only [Value.slice.injEq] at e
  obtain ⟨rfl, rfl, rfl⟩ := e
  generalize hLn : L.length = Ln at *
  have HLN := hide hLn
  have H3 := hide h3
  have HSL := hide hS
  have HI := hide hI
  clear hLn h3 hS hI
  go_enter Tryz.func35, Tryz.ntmps35
  go_wp2
  go_loopw [4, 5] (fun ov iv wr => ∃ (i : Nat) (X : List Pt) (oa : Option Addr) (oc : Nat), i ≤ Ln ∧ i ≤ 13 ∧ ov = .slice oa X.length oc ∧ iv = .int .i64 (i : Int) ∧ OwnW w.heap.size wr (.slice oa X.length oc) X ∧ GoodN wr X ∧ ps X = ps (L.take i) ∧ (∀ m ∈ L.take i, lenV m.2.2.1 ≤ 4) ∧ Below w.heap.size w wr) (fun _ iv _ => Ln - (RowKit.intOf iv).toNat)
  case atStart => exact ⟨0, [], none, 0, Nat.zero_le _, by omega, rfl, rfl, OwnW.nil _ _, fun m hm => (by cases hm), by simp, fun m hm => (by simp at hm), Below.refl _ _⟩
  case round =>
    obtain ⟨i, X, oa, oc, hi, hi13, rfl, rfl, how, hgx, hps, hall, hbw⟩ := hrel
    have HOW := hide how
    have HGX := hide hgx
    have HPS := hide hps
    have HALL := hide hall
    have HBW := hide hbw
    clear how hgx hps hall
    by_cases hlt : i < Ln
    · have d1 : (i : Int) < (Ln : Int) := by omega
      have d0 : (0 : Int) ≤ (i : Int) := by omega
      by_cases h13 : i = 13
      · have g1 : (12 : Int) < (i : Int) := by omega
        have g2 : decide ((12 : Int) < (i : Int)) = true := decide_eq_true g1
        have HF : Hid (¬ BindP L) := fun h => by have := h.1; rw [HLN.out] at this; omega
        clear h13 hbw
        generalize X.length = xl at *
        go_wp2
        go_ret2
        exact ⟨none, 0, 0, false, rfl, ⟨fun h => (by cases h), fun h => absurd h HF.out⟩, fun h => (by cases h), HBW.out⟩
      · have g2 : decide ((12 : Int) < (i : Int)) = false := decide_eq_false (by omega)
        obtain ⟨⟨vr, neg, mv, z⟩, hm⟩ : ∃ m, L[i]? = some m := ⟨_, List.getElem?_eq_getElem (by rw [HLN.out]; exact hlt)⟩
        obtain ⟨ma, mL, mc, e⟩ := HSL.out _ (List.mem_of_getElem? hm)
        simp only at e
        subst e
        obtain ⟨b, o, rfl, hc⟩ := H3.out i _ hm
        have HC : Hid (∀ W, Below w.heap.size w W → CellsP W b (o + i * 3) (vr, neg, .slice ma mL mc, z)) := fun W h => hc.below h
        obtain ⟨x0, x1, x2⟩ := hc.below hbw
        dsimp only at x0 x1 x2
        have HM := hide hm
        have HIM := hide (HI.out _ (List.mem_of_getElem? hm))
        by_cases h4 : mL ≤ 4
        · have hsm := gsmall_yes (w := wr) (neg := neg) (a := ma) (c := mc) h4
          obtain ⟨ys, hy, hyl, hyz⟩ := HIM.out.2 h4
          have HNUM := hide (fun (W : World) (h : Below w.heap.size w W) => gnum_calls (neg := neg) (hy.below h) hyl)
          have hyz' : sgn neg (val R ys) = z := hyz.symm
          rw [hyz'] at HNUM
          have HRG : Hid (Rng vr) := HIM.out.1
          have HL4 := hide h4
          have h12 : i ≤ 12 := by omega
          clear h4 hc hm hy hyl hyz hyz' hbw h13
          generalize hxl0 : X.length = xl0 at *
          have HXL0 := hide hxl0
          clear hxl0
          go_upto_region 7 with fail
          refine hsm.mono ?_
          rintro e w4 ⟨rfl, hb4⟩
          have HB4 := hide hb4
          have HS : Hid (∀ X : World, Below wr.heap.size wr X → X.cell? ⟨b, o + i * 3, none⟩ = some (.int .i64 vr) ∧ X.cell? ⟨b, o + i * 3 + 1, none⟩ = some (.bool neg) ∧ X.cell? ⟨b, o + i * 3 + 2, none⟩ = some (.slice ma mL mc)) := fun Y hY => by
            obtain ⟨h2, h3, h4⟩ := HC.out Y (bafter HBW.out hY (Nat.le_refl _))
            exact ⟨h2, h3, h4⟩
          clear hsm hb4 x0 x1 x2
          have hxl0 := HXL0.out
          subst hxl0
          go_upto_region 7 with fail
          refine wp_region_held_drew (S := fun X : World => X.cell? ⟨b, o + i * 3, none⟩ = some (.int .i64 vr) ∧ X.cell? ⟨b, o + i * 3 + 1, none⟩ = some (.bool neg) ∧ X.cell? ⟨b, o + i * 3 + 2, none⟩ = some (.slice ma mL mc)) (by kernel_rfl) ?_ (fun hHeld => ?_)
          · exact HS.out _ (by first | exact HB4.out | exact HB4.out.drew)
          refine takeD (i := 0) (v := ?v1) (some 23) rfl (by kernel_rfl) (by kernel_rfl) (by kernel_rfl) (fun _ _ _ h => h) (Or.inl ⟨by rfl, ?hy1⟩) (by assumption) (by rfl) ?rest1
          case hy1 => first | (intro w hSw; (try dsimp only at hSw); obtain ⟨q0, q1, q2⟩ := hSw; go_simp; done) | (intro w hSw; (try dsimp only at hSw); obtain ⟨q0, q1, q2⟩ := hSw; go_simp; with_reducible rfl)
          try simp only [Act.put, List.setIfInBounds_toArray, List.set_cons_zero, List.set_cons_succ]
          refine takeD (i := 1) (v := ?v2) (some 24) rfl (by kernel_rfl) (by kernel_rfl) (by kernel_rfl) (fun _ _ _ h => h) (Or.inl ⟨by rfl, ?hy2⟩) (by assumption) (by rfl) ?rest2
          case hy2 => first | (intro w hSw; (try dsimp only at hSw); obtain ⟨q0, q1, q2⟩ := hSw; go_simp; done) | (intro w hSw; (try dsimp only at hSw); obtain ⟨q0, q1, q2⟩ := hSw; go_simp; with_reducible rfl)
          try simp only [Act.put, List.setIfInBounds_toArray, List.set_cons_zero, List.set_cons_succ]
          refine takeD (i := 2) (v := ?v3) (some 25) rfl (by kernel_rfl) (by kernel_rfl) (by kernel_rfl) (fun _ _ _ h => h) (Or.inl ⟨by rfl, ?hy3⟩) (by assumption) (by rfl) ?rest3
          case hy3 => first | (intro w hSw; (try dsimp only at hSw); obtain ⟨q0, q1, q2⟩ := hSw; go_simp; done) | (intro w hSw; (try dsimp only at hSw); obtain ⟨q0, q1, q2⟩ := hSw; go_simp; with_reducible rfl)
          try simp only [Act.put, List.setIfInBounds_toArray, List.set_cons_zero, List.set_cons_succ]
          refine takeD (i := 3) (v := ?v4) (some 26) rfl (by kernel_rfl) (by kernel_rfl) (by kernel_rfl) (fun _ _ _ h => h) (Or.inl ⟨by rfl, ?hy4⟩) (by assumption) (by rfl) ?rest4
          case hy4 => first | (intro w hSw; (try dsimp only at hSw); obtain ⟨q0, q1, q2⟩ := hSw; go_simp; done) | (intro w hSw; (try dsimp only at hSw); obtain ⟨q0, q1, q2⟩ := hSw; go_simp; with_reducible rfl)
          try simp only [Act.put, List.setIfInBounds_toArray, List.set_cons_zero, List.set_cons_succ]
          refine takeD (i := 4) (v := ?v5) (some 27) rfl (by kernel_rfl) (by kernel_rfl) (by kernel_rfl) (fun _ _ _ h => h) (Or.inl ⟨by rfl, ?hy5⟩) (by assumption) (by rfl) ?rest5
          case hy5 => first | (intro w hSw; (try dsimp only at hSw); obtain ⟨q0, q1, q2⟩ := hSw; go_simp; done) | (intro w hSw; (try dsimp only at hSw); obtain ⟨q0, q1, q2⟩ := hSw; go_simp; with_reducible rfl)
          try simp only [Act.put, List.setIfInBounds_toArray, List.set_cons_zero, List.set_cons_succ]
          refine takeD (i := 5) (v := ?v6) (some 28) rfl (by kernel_rfl) (by kernel_rfl) (by kernel_rfl) (fun _ _ _ h => h) (Or.inl ⟨by rfl, ?hy6⟩) (by assumption) (by rfl) ?rest6
          case hy6 => first | (intro w hSw; (try dsimp only at hSw); obtain ⟨q0, q1, q2⟩ := hSw; go_simp; done) | (intro w hSw; (try dsimp only at hSw); obtain ⟨q0, q1, q2⟩ := hSw; go_simp; with_reducible rfl)
          try simp only [Act.put, List.setIfInBounds_toArray, List.set_cons_zero, List.set_cons_succ]
          refine takeD (i := 6) (v := ?v7) (some 29) rfl (by kernel_rfl) (by kernel_rfl) (by kernel_rfl) (fun _ _ _ h => h) (Or.inl ⟨by rfl, ?hy7⟩) (by assumption) (by rfl) ?rest7
          case hy7 => first | (intro w hSw; (try dsimp only at hSw); obtain ⟨q0, q1, q2⟩ := hSw; go_simp; done) | (intro w hSw; (try dsimp only at hSw); obtain ⟨q0, q1, q2⟩ := hSw; go_simp; with_reducible rfl)
          try simp only [Act.put, List.setIfInBounds_toArray, List.set_cons_zero, List.set_cons_succ]
          refine takeD (i := 7) (v := ?v8) (some 30) rfl (by kernel_rfl) (by kernel_rfl) (by kernel_rfl) (fun _ _ _ h => h) (Or.inl ⟨by rfl, ?hy8⟩) (by assumption) (by rfl) ?rest8
          case hy8 => first | (intro w hSw; (try dsimp only at hSw); obtain ⟨q0, q1, q2⟩ := hSw; go_simp; done) | (intro w hSw; (try dsimp only at hSw); obtain ⟨q0, q1, q2⟩ := hSw; go_simp; with_reducible rfl)
          try simp only [Act.put, List.setIfInBounds_toArray, List.set_cons_zero, List.set_cons_succ]
          refine takeD (i := 8) (v := ?v9) (some 31) rfl (by kernel_rfl) (by kernel_rfl) (by kernel_rfl) (fun _ _ _ h => h) (Or.inl ⟨by rfl, ?hy9⟩) (by assumption) (by rfl) ?rest9
          case hy9 => first | (intro w hSw; (try dsimp only at hSw); obtain ⟨q0, q1, q2⟩ := hSw; go_simp; done) | (intro w hSw; (try dsimp only at hSw); obtain ⟨q0, q1, q2⟩ := hSw; go_simp; with_reducible rfl)
          try simp only [Act.put, List.setIfInBounds_toArray, List.set_cons_zero, List.set_cons_succ]
          refine takeD (i := 9) (v := ?v10) (some 32) rfl (by kernel_rfl) (by kernel_rfl) (by kernel_rfl) (fun _ _ _ h => h) (Or.inl ⟨by rfl, ?hy10⟩) (by assumption) (by rfl) ?rest10
          case hy10 => first | (intro w hSw; (try dsimp only at hSw); obtain ⟨q0, q1, q2⟩ := hSw; go_simp; done) | (intro w hSw; (try dsimp only at hSw); obtain ⟨q0, q1, q2⟩ := hSw; go_simp; with_reducible rfl)
          try simp only [Act.put, List.setIfInBounds_toArray, List.set_cons_zero, List.set_cons_succ]
          refine takeD (i := 10) (v := ?v11) (some 33) rfl (by kernel_rfl) (by kernel_rfl) (by kernel_rfl) (fun _ _ _ h => h) (Or.inl ⟨by rfl, ?hy11⟩) (by assumption) (by rfl) ?rest11
          case hy11 => first | (intro w hSw; (try dsimp only at hSw); obtain ⟨q0, q1, q2⟩ := hSw; go_simp; done) | (intro w hSw; (try dsimp only at hSw); obtain ⟨q0, q1, q2⟩ := hSw; go_simp; with_reducible rfl)
          try simp only [Act.put, List.setIfInBounds_toArray, List.set_cons_zero, List.set_cons_succ]
          refine wpAnyH_ready (rs := [11]) (by kernel_rfl) (by simp) ?_
          refine AllReadyH.cons rfl (fun K hK => ?_) AllReadyH.nil
          go_simp
          refine (HNUM.out _ (bafter HBW.out (by first | exact HB4.out | exact HB4.out.drew) (Nat.le_refl _))).mono ?_
          rintro e w5 ⟨v5, rfl, hr5, hb5⟩
          obtain ⟨rb, ra, rL, rc, rfl⟩ := hr5.form
          have HB5 : Hid (Below wr.heap.size wr w5) := bafter (by first | exact HB4.out | exact HB4.out.drew) hb5 (Nat.le_refl _)
          have HR5 := hide hr5
          clear hr5 hb5 hHeld
          go_wp2_with fail
          refine hK.out _ _ (HS.out _ HB5.out) (fun hHeld => ?_)
          clear hK K
          try simp only [Act.put, List.setIfInBounds_toArray, List.set_cons_zero, List.set_cons_succ]
          refine takeD (i := 12) (v := ?v12) (some 35) rfl (by kernel_rfl) (by kernel_rfl) (by kernel_rfl) (fun _ _ _ h => h) (Or.inl ⟨by rfl, ?hy12⟩) (by assumption) (by rfl) ?rest12
          case hy12 => first | (intro w hSw; (try dsimp only at hSw); obtain ⟨q0, q1, q2⟩ := hSw; go_simp; done) | (intro w hSw; (try dsimp only at hSw); obtain ⟨q0, q1, q2⟩ := hSw; go_simp; with_reducible rfl)
          try simp only [Act.put, List.setIfInBounds_toArray, List.set_cons_zero, List.set_cons_succ]
          refine wpAnyH_ready (rs := [13]) (by kernel_rfl) (by simp) ?_
          refine AllReadyH.cons rfl (fun K hK => ?_) AllReadyH.nil
          go_simp
          have hbl := bel w5 (.cells #[.int .i64 vr, .bool rb, .slice ra rL rc] 102)
          have HB6 := hide (bafter HB5.out hbl (Nat.le_refl _))
          have HBL6 := hide hbl
          have HRL := hide (row_litW w5 vr rb (.slice ra rL rc) z)
          clear hbl
          generalize hw6 : w5.alloc (.cells #[.int .i64 vr, .bool rb, .slice ra rL rc] 102) = w6 at *
          clear hw6
          refine hK.out _ _ (HS.out _ HB6.out) (fun hHeld => ?_)
          clear hK K hHeld
          try simp only [Act.put, List.setIfInBounds_toArray, List.set_cons_zero, List.set_cons_succ]
          obtain ⟨v7, w7, hrun7, ho7, hg7, ha7, hk7⟩ := run_appW w6 w.heap.size 61 _ X (HOW.out.below HB6.out) _ [((vr, rb, .slice ra rL rc, z) : Pt)] HRL.out (fun m hm => by simp at hm; subst hm; rfl) (by have h1 := congrArg List.length HPS.out; rw [ps_length, ps_length, List.length_take] at h1; simp only [List.length_cons, List.length_nil]; omega) (Nat.le_trans HBW.out.size HB6.out.size)
          obtain ⟨oa7, oc7, rfl, _, _⟩ := ho7.len
          have HB7 : Hid (Below w.heap.size w w7) := (bafter HBW.out HB6.out (Nat.le_refl _)).grown hg7 (Nat.le_trans HBW.out.size HB6.out.size) (fun j hj => (HOW.out.lt hj).1)
          have HS7 : Hid (let X := w7; X.cell? ⟨b, o + i * 3, none⟩ = some (.int .i64 vr) ∧ X.cell? ⟨b, o + i * 3 + 1, none⟩ = some (.bool neg) ∧ X.cell? ⟨b, o + i * 3 + 2, none⟩ = some (.slice ma mL mc)) := by
            obtain ⟨h2, h3, h4⟩ := HC.out w7 HB7.out
            exact ⟨h2, h3, h4⟩
          have HGN : Hid (GoodN w7 (X ++ [((vr, rb, .slice ra rL rc, z) : Pt)])) := by
            intro q hq
            rcases List.mem_append.1 hq with hq | hq
            · exact ((HGX.out.below HB6.out).kr hk7) q hq
            · simp at hq
              subst hq
              exact ⟨HRG.out, (HR5.out.below HBL6.out).kr hk7⟩
          have HOW7 := hide ho7
          generalize hxl : (X ++ [((vr, rb, .slice ra rL rc, z) : Pt)]).length = xl at *
          have HXL := hide hxl
          clear ho7 hg7 ha7 hk7 hxl
          refine wpAnyH_ready (rs := [14]) (by kernel_rfl) (by simp) ?_
          refine AllReadyH.cons rfl (fun K hK => ?_) AllReadyH.nil
          refine Lib.wp_append_run _ _ _ _ _ rfl _ _ rfl rfl _ _ hrun7 ?_
          clear hrun7
          refine hK.out _ _ (HS7.out) (fun hHeld => ?_)
          clear hK K
          try simp only [Act.put, List.setIfInBounds_toArray, List.set_cons_zero, List.set_cons_succ]
          refine takeD (i := 15) (v := ?v13) (some 4) rfl (by kernel_rfl) (by kernel_rfl) (by kernel_rfl) (fun _ _ _ h => h) (Or.inl ⟨by rfl, ?hy13⟩) (by assumption) (by rfl) ?rest13
          case hy13 => first | (intro w hSw; (try dsimp only at hSw); obtain ⟨q0, q1, q2⟩ := hSw; go_simp; done) | (intro w hSw; (try dsimp only at hSw); obtain ⟨q0, q1, q2⟩ := hSw; go_simp; with_reducible rfl)
          try simp only [Act.put, List.setIfInBounds_toArray, List.set_cons_zero, List.set_cons_succ]
          clear hHeld
          refine wpAnyH_done (by kernel_rfl) ?_ _
          go_wp2
          go_roundw
          case rel =>
            have e9 := HXL.out
            subst e9
            refine ⟨i + 1, X ++ [((vr, rb, .slice ra rL rc, z) : Pt)], oa7, oc7, by omega, by omega, rfl, by go_num, HOW7.out, HGN.out, by rw [ps_append, HPS.out, ps_take_step HM.out]; rfl, fun m hm => ?_, HB7.out⟩
            rw [List.take_add_one, HM.out] at hm
            rcases List.mem_append.1 hm with hm | hm
            · exact HALL.out m hm
            · simp at hm
              subst hm
              exact HL4.out
          case measure => simp [RowKit.intOf]; omega
        · have hsm := gsmall_no (w := wr) (neg := neg) (a := ma) (c := mc) h4
          have HF : Hid (¬ BindP L) := fun h => h4 (h.2 _ (List.mem_of_getElem? hm))
          clear h4 hc hm hbw h13
          generalize X.length = xl at *
          go_wp2_with fail
          refine hsm.mono ?_
          rintro e w4 ⟨rfl, hb4⟩
          have HB4 := hide hb4
          clear hsm hb4 x0 x1 x2
          go_wp2
          go_ret2
          exact ⟨none, 0, 0, false, rfl, ⟨fun h => (by cases h), fun h => absurd h HF.out⟩, fun h => (by cases h), bafter HBW.out HB4.out (Nat.le_refl _)⟩
    · obtain rfl : i = Ln := by omega
      have d1 : ¬ (i : Int) < (i : Int) := by omega
      have HLL := hide hi13
      have hrow := HOW.out.row
      have HROW := hide hrow
      clear hbw hrow
      generalize hxl : X.length = xl at *
      go_wp2
      go_ret2
      have hta : L.take i = L := List.take_of_length_le (by rw [HLN.out]; omega)
      have hal := HALL.out
      have hpp := HPS.out
      rw [hta] at hal hpp
      exact ⟨_, _, _, true, rfl, ⟨fun _ => ⟨by rw [HLN.out]; exact HLL.out, hal⟩, fun _ => rfl⟩, fun _ => ⟨X, HROW.out, HGX.out, hpp⟩, HBW.out⟩

end Go.Proofs.YtkdhcpfmlelfcaaGreatDoor

namespace Go.Proofs.YtkdhcpfmlelfcaaGreatDoor
set_option linter.unusedVariables false
set_option linter.unusedSimpArgs false
set_option maxRecDepth 100000
open Go Go.RowKit Go.Shelf Go.Lib Go.ChangeShapes Go.WideShapes Go.ChangeAt

theorem cellsBind : Tryz.prog.cellsOf 79 = 3 := by kernel_rfl
theorem cellsBinds : Tryz.prog.cellsOf 60 = 1 := by kernel_rfl
theorem bind_of {H : Type} {enc : TypeId × Value → H} {W : World} {n : Nat} {b off i : Nat} {cs : List Value} {x : DataW H × List MemPlace}
    (h1 : W.cells? 0 ((⟨b, off, none⟩ : Addr).add (i * 3)) 3 = some cs) (h2 : DataW.trod enc Tryz.prog W 0 (fun _ => true) true n 79 cs = some x) :
    ∃ m : Pt, PIn W m ∧ CellsP W b (off + i * 3) m := by
  obtain ⟨_, hlen, hcell⟩ := World.cells?_some h1
  match cs, hlen with
  | [v0, v1, v2], _ =>
    obtain ⟨y0, y1, k, _, _, g0, g1⟩ := trod_struct2 Tryz.underlying79 h2
    simp [cellsInt, cellsBig] at g0 g1
    obtain ⟨z, e0, _, hz⟩ := DataW.trod_int Tryz.underlying3 g0
    simp at e0
    obtain ⟨sg0, a, L, cap, e1, e2, hlim⟩ := big_few g1
    subst e0 e1 e2
    have k0 := hcell 0 (by omega)
    have k1 := hcell 1 (by omega)
    have k2 := hcell 2 (by omega)
    rw [addr_add, addr_add] at k0 k1 k2
    have hrg : Rng z := by
      simp [Lit.wf, IntKind.min, IntKind.max, IntKind.signed, IntKind.bits] at hz
      unfold Rng
      omega
    by_cases h8 : L ≤ 8
    · obtain ⟨xs, hx, hxl⟩ := hlim h8
      exact ⟨(z, sg0, .slice a L cap, sgn sg0 (val R xs)), ⟨hrg, a, L, cap, rfl, fun _ => ⟨xs, hx, hxl, rfl⟩⟩, by simpa using k0, by simpa using k1, by simpa using k2⟩
    · exact ⟨(z, sg0, .slice a L cap, 0), ⟨hrg, a, L, cap, rfl, fun h => absurd h h8⟩, by simpa using k0, by simpa using k1, by simpa using k2⟩
theorem binds_cells {H : Type} {enc : TypeId × Value → H} {W : World} {fuel : Nat} {v : Value} {x : DataW H × List MemPlace}
    (hf : DataW.trod enc Tryz.prog W 0 (fun _ => true) true fuel 60 [v] = some x) : ∃ pa pl pc M, v = .slice pa pl pc ∧ RowP W (.slice pa pl pc) M ∧ ∀ m ∈ M, PIn W m := by
  rcases Go.Deep.open_slice Tryz.underlying60 hf with ⟨h0, _⟩ | ⟨a, len, cap, m, n, D, Pl, hcs, hb, hl, hm, hmm, hx, hel⟩
  · simp at h0
    subst h0
    exact ⟨none, 0, 0, [], rfl, (⟨none, 0, rfl, Nat.le_refl _, by simp [maxLen], fun j m hj => by simp at hj⟩ : RowP W (.slice none 0 0) []), fun m hm => by cases hm⟩
  · simp at hcs
    subst hcs
    simp only [if_true] at hmm
    subst hmm
    rw [cellsBind] at hel
    rcases Nat.eq_zero_or_pos len with h0 | hpos
    · subst h0
      exact ⟨some a, 0, m, [], rfl, ⟨some a, m, rfl, Nat.zero_le _, hm, fun j x hj => by simp at hj⟩, fun m hm => by cases hm⟩
    · obtain ⟨cs0, hc0, _⟩ := hel 0 (by omega)
      rw [Nat.zero_mul] at hc0
      obtain ⟨b, off, rfl⟩ : ∃ b o, a = ⟨b, o, none⟩ := by
        obtain ⟨b, o, e⟩ := spot_none3 (by omega) hc0
        obtain ⟨ab, ao, sp⟩ := a
        simp [Addr.add] at e
        exact ⟨b, o, by simp [e]⟩
      obtain ⟨f, hff⟩ := Go.Deep.choose_lt (α := Pt) (n := len) (p := fun i y => PIn W y ∧ CellsP W b (off + i * 3) y) (fun i hi => by
        obtain ⟨cs', h1, h2⟩ := hel i (by omega)
        exact bind_of h1 h2)
      refine ⟨some ⟨b, off, none⟩, len, m, (List.range len).map f, rfl, ⟨some ⟨b, off, none⟩, m, by simp, by simpa using hl, hm, fun j y hj => ?_⟩, fun y hy => ?_⟩
      · simp only [List.getElem?_map, Option.map_eq_some_iff] at hj
        obtain ⟨i, hi, rfl⟩ := hj
        obtain ⟨hi1, rfl⟩ := List.getElem?_eq_some_iff.1 hi
        simp only [List.length_range] at hi1
        simp only [List.getElem_range]
        exact ⟨b, off, rfl, (hff j hi1).2⟩
      · obtain ⟨i, hi, rfl⟩ := List.mem_map.1 hy
        exact (hff i (by simpa using hi)).1
/-- Bindings that came in. -/
def BindI (W : World) (v : Value) (pa : Option Addr) (pl pc : Nat) (L : List Pt) : Prop := v = .slice pa pl pc ∧ RowP W (.slice pa pl pc) L ∧ ∀ m ∈ L, PIn W m
theorem binds_in {H : Type} {enc : TypeId × Value → H} {W : World} {base : Nat} {v : Value} {d : DataW H} {ps : List MemPlace}
    (hval : Value.okWide Tryz.prog W .any base 60 v) (h : DataW.Trod enc Tryz.prog W 0 (fun _ => true) true 60 v d ps) : ∃ pa pl pc L, BindI W v pa pl pc L := by
  obtain ⟨a0, len0, cap0, rfl⟩ := okWide_slice Tryz.underlying60 hval
  obtain ⟨fuel, hf⟩ := h
  obtain ⟨pa, pl, pc, M, e, h1, h2⟩ := binds_cells (v := .slice a0 len0 cap0) hf
  exact ⟨pa, pl, pc, M, e, h1, h2⟩
theorem BindI.sl {W : World} {v : Value} {pa : Option Addr} {pl pc : Nat} {L : List Pt} (h : BindI W v pa pl pc L) : Sl L := fun m hm => by
  obtain ⟨_, a, l, c, e, _⟩ := h.2.2 m hm
  exact ⟨a, l, c, e⟩
theorem PIn.lim {W : World} {m : Pt} (h : PIn W m) : Rng m.1 ∧ (lenV m.2.2.1 ≤ 4 → Lim 8 W m) := by
  obtain ⟨h1, a, l, c, e, h2⟩ := h
  refine ⟨h1, fun h3 => ?_⟩
  rw [e] at h3
  simp only [lenV] at h3
  obtain ⟨ys, hy, hyl, hz⟩ := h2 (by omega)
  exact ⟨ys, hy, by omega, hz⟩
theorem BindI.calls {w W : World} {v : Value} {pa : Option Addr} {pl pc : Nat} {L : List Pt} (h : BindI w v pa pl pc L) (hb : Below w.heap.size w W) : Calls Tryz.prog 35 #[.slice pa pl pc] W fun e w' => BindE W L e w' :=
  bindings_calls (h.2.1.below hb) h.sl (fun m hm => ⟨(h.2.2 m hm).lim.1, fun h4 => ((h.2.2 m hm).lim.2 h4).below hb⟩)
/-- Few bindings of small numbers, for both sides. -/
structure BindsB (w : World) (pa : Option Addr) (pl pc : Nat) (L : List Pt) : Prop where
  row : RowP w (.slice pa pl pc) L
  good : GoodA w L
  bnd : Bnd 8 (ps L)
  bndT : BndT 80 (ps L)
  len : L.length ≤ 13
theorem BindI.both {w : World} {v : Value} {pa : Option Addr} {pl pc : Nat} {L : List Pt} (h : BindI w v pa pl pc L) (hl : BindP L) : BindsB w pa pl pc L := by
  have hlim : ∀ m ∈ L, Rng m.1 ∧ Lim 8 w m := fun m hm => ⟨(h.2.2 m hm).lim.1, (h.2.2 m hm).lim.2 (hl.2 m hm)⟩
  have hbp : ∀ p ∈ ps L, p.2.natAbs < R ^ 8 := fun p hp => by
    obtain ⟨m, hm, rfl⟩ := List.mem_map.1 hp
    obtain ⟨_, ys, hy, hyl, hz⟩ := hlim m hm
    show m.2.2.2.natAbs < _
    rw [hz]
    exact bl_limbs hy.small hyl
  refine ⟨h.2.1, fun m hm => ?_, hbp, fun p hp => bl10 (hbp p hp), hl.1⟩
  obtain ⟨h1, ys, hy, hyl, hz⟩ := hlim m hm
  refine ⟨h1, ?_⟩
  rw [hz]
  exact ⟨_, _, _, rfl, ⟨ys, hy, by omega, rfl⟩, rfl⟩

end Go.Proofs.YtkdhcpfmlelfcaaGreatDoor

namespace Go.Proofs.YtkdhcpfmlelfcaaGreatDoor
set_option linter.unusedVariables false
set_option linter.unusedSimpArgs false
set_option maxRecDepth 100000
open Go Go.RowKit Go.Shelf Go.Lib Go.ChangeShapes Go.WideShapes Go.ChangeAt

theorem infoBind : (Tryz.prog.info? 79).map (fun i => (i.zero, i.size, i.bytes)) = some (some (.agg #[.int .i64 0, .bool false, .slice none 0 0]), 3, 40) := by kernel_rfl
/-- A row of parts of one's own. -/
def OwnB (n₀ : Nat) (W : World) (v : Value) (M : List Pt) : Prop := OwnZ W n₀ 79 zPart v M.length (pcells M)
theorem OwnB.nil (n₀ : Nat) (W : World) : OwnB n₀ W (.slice none 0 0) [] := ownZ_nil _ _ _ _
theorem OwnB.len {n₀ : Nat} {W : World} {v : Value} {M : List Pt} (h : OwnB n₀ W v M) : ∃ ao cap, v = .slice ao M.length cap ∧ M.length ≤ cap ∧ cap ≤ maxLen := by
  rcases h.1.2 with ⟨hv, hn⟩ | ⟨g, cap, cur, hv, hg, hh, hc1, hc2, hc3⟩
  · exact ⟨none, 0, by rw [hv, hn], by omega, by simp [maxLen]⟩
  · exact ⟨_, _, hv, hc1, hc2⟩
theorem OwnB.row {n₀ : Nat} {W : World} {v : Value} {M : List Pt} (h : OwnB n₀ W v M) : RowP W v M := by
  rcases h.1.2 with ⟨hv, hn⟩ | ⟨g, cap, cur, hv, hg, hh, hc1, hc2, hc3⟩
  · refine ⟨none, 0, by rw [hv, hn], by omega, by simp [maxLen], fun j t hj => ?_⟩
    have : M = [] := List.length_eq_zero_iff.1 hn
    rw [this] at hj
    simp at hj
  · subst hv
    refine ⟨some ⟨g, 0, none⟩, cap, rfl, hc1, hc2, fun j m hj => ⟨g, 0, rfl, ?_⟩⟩
    have hlt : j < M.length := (List.getElem?_eq_some_iff.1 hj).1
    have c := fun i (hi : i < 3) => (h.1.cellAt (j * 3 + i) (by rw [zPart_size]; omega)).trans (pcells_get M j m hj i hi)
    simp only [Nat.zero_add]
    exact ⟨c 0 (by omega), c 1 (by omega), c 2 (by omega)⟩
theorem OwnB.lt {n₀ : Nat} {W : World} {v : Value} {M : List Pt} (h : OwnB n₀ W v M) {j : Nat} (hj : v.ownBlock = some j) : n₀ ≤ j ∧ j < W.heap.size := World.ownsRow.lt h.1 j hj
theorem OwnB.block {n₀ : Nat} {W W' : World} {v : Value} {M : List Pt} (h : OwnB n₀ W v M) (hk : ∀ k, v.ownBlock = some k → W'.heap[k]? = W.heap[k]?) : OwnB n₀ W' v M := by
  refine ⟨⟨h.1.1, ?_⟩, fun g i u hg hi hc => ?_⟩
  · rcases h.1.2 with hn | ⟨g, cap, cur, hv, h1, h2, h3⟩
    · exact .inl hn
    · exact .inr ⟨g, cap, cur, hv, h1, (hk g (by rw [hv]; rfl)).trans h2, h3⟩
  · rw [World.cell?_of_block (a := ⟨g, i, none⟩) (hk g hg)] at hc
    exact h.2 g i u hg hi hc
theorem OwnB.below {n₀ : Nat} {W W' : World} {v : Value} {M : List Pt} (h : OwnB n₀ W v M) (hb : Below W.heap.size W W') : OwnB n₀ W' v M :=
  h.block (fun k hk => hb.block k (h.lt hk).2)

/-- Appending parts to a row of one's own. -/
theorem run_appB (w : World) (n₀ : Nat) (ty : TypeId) (v : Value) (M : List Pt) (hown : OwnB n₀ w v M) (xv : Value) (N : List Pt) (hN : RowP w xv N) (hone : ∀ m ∈ N, m.2.2.1.oneCell' = true) (hl : M.length + N.length ≤ 1048576) (hbase : n₀ ≤ w.heap.size) :
    ∃ v' w', (Builtin.append_ #[60, 60] ty #[v, xv]).run Tryz.prog w = .ok v' w' ∧ OwnB n₀ w' v' (M ++ N) ∧ w.grownBy w' v.ownBlock ∧ (v'.ownBlock = v.ownBlock ∨ v'.ownBlock = some w.heap.size) ∧ K32 w w' := by
  obtain ⟨i0, hi, hz0, hz1, hz2⟩ := info_parts infoBind
  obtain ⟨ao, cap, rfl, h1, h2, h3⟩ := hN
  cases ao with
  | none =>
    have hd0 : N = [] := by
      cases N with
      | nil => rfl
      | cons y r => obtain ⟨b, off, e, _⟩ := h3 0 y rfl; cases e
    subst hd0
    refine ⟨v, w, ?_, by rw [List.append_nil]; exact hown, ⟨rfl, rfl, rfl, Nat.le_refl _, fun _ _ _ => rfl⟩, .inl rfl, K32.refl _⟩
    rcases hown.1.2 with ⟨rfl, h0⟩ | ⟨g, cp, cur, rfl, _, _, hnc, _⟩
    · simp [Builtin.append_, run_underlying Tryz.underlying60, sizeOf, typeInfo, hi, Builtin.lenOf, Builtin.firstCells]
    · simp [Builtin.append_, run_underlying Tryz.underlying60, sizeOf, typeInfo, hi, Builtin.lenOf, Builtin.firstCells, hnc, storeCells]
  | some ad =>
    by_cases hN0 : N = []
    · subst hN0
      obtain ⟨v', w', hr, ho, hg, ha, hk⟩ := run_appZ (P := Tryz.prog) w n₀ 60 ty 79 i0 zPart 40 Tryz.underlying60 hi hz0 hz1 hz2 (by decide) v M.length (pcells M) hown ad 0 cap [] rfl (fun j u h => by simp at h) (fun u h => by cases h) (by unfold maxLen; simp at hl; omega) (by simp at hl; omega) hbase
      exact ⟨v', w', hr, by rw [List.append_nil]; unfold OwnB; simpa using ho, hg, ha, keptZ_k32 hk⟩
    · have had : ad.spot = none := by
        obtain ⟨y, r, rfl⟩ : ∃ y r, N = y :: r := by cases N with | nil => exact absurd rfl hN0 | cons y r => exact ⟨y, r, rfl⟩
        obtain ⟨b, off, e, _⟩ := h3 0 y rfl
        cases e
        rfl
      have hq1 : ∀ (j : Nat) (u : Value), (pcells N)[j]? = some u → w.cell? (ad.add j) = some u := by
        intro j u hj
        have hjl : j < N.length * 3 := by rw [← pcells_length]; exact (List.getElem?_eq_some_iff.1 hj).1
        have hq : j / 3 < N.length := by omega
        obtain ⟨b, off, e, hc⟩ := h3 (j / 3) N[j / 3] (List.getElem?_eq_getElem hq)
        cases e
        have hget := pcells_get N (j / 3) N[j / 3] (List.getElem?_eq_getElem hq) (j % 3) (Nat.mod_lt _ (by decide))
        rw [show j / 3 * 3 + j % 3 = j by omega, hj] at hget
        rw [addr_add]
        have h3' : j % 3 = 0 ∨ j % 3 = 1 ∨ j % 3 = 2 := by omega
        rcases h3' with e | e | e
        · rw [e] at hget
          rw [show off + j = off + j / 3 * 3 by omega, hc.1, hget]; rfl
        · rw [e] at hget
          rw [show off + j = off + j / 3 * 3 + 1 by omega, hc.2.1, hget]; rfl
        · rw [e] at hget
          rw [show off + j = off + j / 3 * 3 + 2 by omega, hc.2.2, hget]; rfl
      have hq2 : ∀ u ∈ pcells N, u.oneCell' = true := by
        intro u hu
        obtain ⟨m, hm, hu2⟩ := List.mem_flatMap.1 hu
        simp only [ptCells, List.mem_cons, List.mem_nil_iff, or_false] at hu2
        rcases hu2 with rfl | rfl | rfl
        · rfl
        · rfl
        · exact hone m hm
      obtain ⟨v', w', hr, ho, hg, ha, hk⟩ := run_appZ (P := Tryz.prog) w n₀ 60 ty 79 i0 zPart 40 Tryz.underlying60 hi hz0 hz1 hz2 (by decide) v M.length (pcells M) hown ad N.length cap (pcells N) (pcells_length N) hq1 hq2 (by unfold maxLen; omega) (by omega) hbase
      exact ⟨v', w', hr, by unfold OwnB; rw [List.length_append, pcells_append]; exact ho, hg, ha, keptZ_k32 hk⟩

theorem own_lit (w : World) (m : Pt) : OwnB w.heap.size (w.alloc (.cells #[.int .i64 m.1, .bool m.2.1, m.2.2.1] 79)) (.slice (some ⟨w.heap.size, 0, none⟩) 1 1) [m] := by
  refine ⟨World.ownsRow_lit w #[.int .i64 m.1, .bool m.2.1, m.2.2.1] 1 (Nat.le_refl _) (by simp [maxLen]) rfl, fun g i u hg hi hc => ?_⟩
  simp only [Value.ownBlock, Option.some.injEq] at hg
  subst hg
  have h1 : (w.alloc (.cells #[.int .i64 m.1, .bool m.2.1, m.2.2.1] 79)).heap[w.heap.size]? = some (.cells #[.int .i64 m.1, .bool m.2.1, m.2.2.1] 79 (0, 0)) := World.alloc_heap_new w _
  rw [cell_of_row _ _ _ _ _ _ h1] at hc
  have hi3 : 3 ≤ i := by simpa [zPart, Value.cells] using hi
  have h2 := (Array.getElem?_eq_some_iff.1 hc).1
  simp at h2
  omega

theorem ev_plus (f : Int → Int) {M A B : Ps} (h : ∀ u, cf u M = cf u A + cf u B) : ev f M = ev f A + ev f B := by
  rw [ev_same f (b := A ++ B) (fun v => by rw [h, cf_append]), ev_append]
theorem ev_less (f : Int → Int) {M A B : Ps} (h : ∀ u, cf u M = cf u A - cf u B) : ev f M = ev f A - ev f B := by
  rw [ev_same f (b := A ++ times (-1) B) (fun v => by rw [h, cf_append, times, cf_scale]; omega), ev_append, times, ev_scale]
  omega
theorem ev_times (f : Int → Int) {M A : Ps} {z : Int} (h : ∀ u, cf u M = cf u A * z) : ev f M = ev f A * z := by
  rw [ev_same f (b := times z A) (fun v => by rw [h, times, cf_scale]), times, ev_scale]
theorem ev_cong {f g : Int → Int} : ∀ {l : Ps}, (∀ p ∈ l, f p.1 = g p.1) → ev f l = ev g l
  | [], _ => rfl
  | p :: l, h => by rw [ev_cons, ev_cons, h p (by simp), ev_cong (l := l) (fun q hq => h q (by simp [hq]))]
theorem ev_place {f g : Int → Int} {M A B : Ps} {c d x : Int} (h : ∀ u, cf u M = (if u = x then 0 else cf u A) + cf u B * cf x A) (hg : ∀ u, g u = if x = u then d + ev f B else f u) : c + d * cf x A + ev f M = c + ev g A := by
  have h1 : ev f M = ev f (A.filter fun p => decide (p.1 ≠ x)) + ev f B * cf x A := by
    rw [ev_same f (b := (A.filter fun p => decide (p.1 ≠ x)) ++ times (cf x A) B) (fun v => by rw [h, cf_append, cf_without, times, cf_scale]), ev_append, times, ev_scale]
  have h2 := ev_split g x A
  have h3 : ev g (A.filter fun p => decide (p.1 ≠ x)) = ev f (A.filter fun p => decide (p.1 ≠ x)) := ev_cong (fun p hp => by
    have hne : p.1 ≠ x := by simpa using (List.mem_filter.1 hp).2
    rw [hg, if_neg (fun e => hne e.symm)])
  have h4 : g x = d + ev f B := by rw [hg, if_pos rfl]
  rw [h3, h4, Int.mul_add, Int.mul_comm (cf x A) d, Int.mul_comm (cf x A) (ev f B)] at h2
  omega
/-- A sum made of small ones: few parts, and numbers not too great. -/
theorem TermR.great {k j : Nat} {W : World} {v : Value} {c : Int} {M : List Pt} {l : Ps} (h : TermR W v c M) (hc : ∀ x, cf x (ps M) = cf x l) (hb : Bnd k l) (hl : l.length ≤ 100) (hcb : c.natAbs < R ^ k) (hk : k + 100 ≤ j) (hj : j ≤ 1000) : TermA j W v c M :=
  (h.bounded hc hb (by omega) hcb (by omega)).up (by omega)
theorem bnd_filter {k : Nat} {l : Ps} (p : Int × Int → Bool) (h : Bnd k l) : Bnd k (l.filter p) := fun q hq => h q (List.mem_filter.1 hq).1
def put2 (W : World) (b : Nat) (p q : Value) : World := (W.setCell ⟨b, 0, none⟩ p).setCell ⟨b, 1, none⟩ q
theorem put2_other {W : World} {b k : Nat} (h : k ≠ b) (p q : Value) : (put2 W b p q).heap[k]? = W.heap[k]? := (heap_setCell_other _ ⟨b, 1, none⟩ k q h).trans (heap_setCell_other W ⟨b, 0, none⟩ k p h)
theorem put2_below {n : Nat} {w W : World} {b : Nat} (h : Below n w W) (hb : n ≤ b) (p q : Value) : Below n w (put2 W b p q) := below_put h hb p q
theorem val_bnd {L A : List Pt} {c : Int} (hb : Bnd 8 (ps L)) (ha : Bnd 8 (ps A)) (hl : A.length ≤ 12) (hc : c.natAbs < R ^ 8) : (c + ev (lookZ L) (ps A)).natAbs < R ^ 40 := by
  have h1 := ev_bnd (look_bnd hb) ha
  have h2 : (ps A).length ≤ 12 := by rw [ps_length]; exact hl
  exact lt_up (pl_add (lt_up hc (show 8 ≤ 30 by omega)) (lt_up h1 (show _ ≤ 30 by omega))) (by omega)

/-- What LinearValues is given. -/
def CaseI (W : World) (v : Value) (an : Bool) (aa : Option Addr) (aL ac : Nat) (ap : Option Addr) (al ak : Nat) (A : List Pt) (bn : Bool) (ba : Option Addr) (bL bc : Nat) (bp : Option Addr) (bl bk : Nat) (B : List Pt) (x : Int) (la : Option Addr) (ll lc : Nat) (L : List Pt) : Prop :=
  v = .agg #[.bool an, .slice aa aL ac, .slice ap al ak, .bool bn, .slice ba bL bc, .slice bp bl bk, .int .i64 x, .slice la ll lc] ∧ TermI W (.agg #[.bool an, .slice aa aL ac, .slice ap al ak]) an aa aL ac ap al ak A ∧ TermI W (.agg #[.bool bn, .slice ba bL bc, .slice bp bl bk]) bn ba bL bc bp bl bk B ∧ Rng x ∧ BindI W (.slice la ll lc) la ll lc L
theorem cellsCase : Tryz.prog.cellsOf 77 = 8 := by kernel_rfl
theorem term_cells {H : Type} {enc : TypeId × Value → H} {W : World} {fuel : Nat} {c0 c1 c2 : Value} {x : DataW H × List MemPlace}
    (hf : DataW.trod enc Tryz.prog W 0 (fun _ => true) true fuel 27 [c0, c1, c2] = some x) : ∃ cn ca cL cc pa pl pc M, c0 = .bool cn ∧ c1 = .slice ca cL cc ∧ c2 = .slice pa pl pc ∧ TermI W (.agg #[.bool cn, .slice ca cL cc, .slice pa pl pc]) cn ca cL cc pa pl pc M := by
  obtain ⟨y0, y1, m, hx, _, hy0, hy1⟩ := trod_struct2 Tryz.underlying27 hf
  simp [cellsBig, cellsParts] at hy0 hy1
  obtain ⟨b, a, l, cap, e0, e1, hlim⟩ := big_few hy0
  obtain ⟨pa, pl, pc, M, e2, hr, hp⟩ := parts_in hy1
  exact ⟨b, a, l, cap, pa, pl, pc, M, e0, e1, e2, rfl, hr, hp, by rw [← e1]; exact hlim⟩
theorem case_in {H : Type} {enc : TypeId × Value → H} {W : World} {base : Nat} {v : Value} {d : DataW H} {ps : List MemPlace}
    (hval : Value.okWide Tryz.prog W .any base 77 v) (h : DataW.Trod enc Tryz.prog W 0 (fun _ => true) true 77 v d ps) :
    ∃ an aa aL ac ap al ak A bn ba bL bc bp bl bk B x la ll lc L, CaseI W v an aa aL ac ap al ak A bn ba bL bc bp bl bk B x la ll lc L := by
  obtain ⟨cs, rfl, hcl⟩ := okWide_struct Tryz.underlying77 hval
  rw [cellsCase] at hcl
  obtain ⟨l⟩ := cs
  match l, hcl with
  | [c0, c1, c2, c3, c4, c5, c6, c7], _ =>
    obtain ⟨fuel, hf⟩ := h
    obtain ⟨y0, y1, y2, y3, m, _, _, g0, g1, g2, g3⟩ := Go.Joins.trod_struct4 Tryz.underlying77 hf
    simp [Value.cells, cellsTerm, cellsInt, cellsBinds] at g0 g1 g2 g3
    obtain ⟨an, aa, aL, ac, ap, al, ak, A, e0, e1, e2, hA⟩ := term_cells g0
    obtain ⟨bn, ba, bL, bc, bp, bl, bk, B, e3, e4, e5, hB⟩ := term_cells g1
    obtain ⟨z, e6, _, hz⟩ := DataW.trod_int Tryz.underlying3 g2
    obtain ⟨la, ll, lc, L, e7, hr, hp⟩ := binds_cells g3
    simp at e6
    subst e0 e1 e2 e3 e4 e5 e6 e7
    have hrg : Rng z := by
      simp [Lit.wf, IntKind.min, IntKind.max, IntKind.signed, IntKind.bits] at hz
      unfold Rng
      omega
    exact ⟨an, aa, aL, ac, ap, al, ak, A, bn, ba, bL, bc, bp, bl, bk, B, z, la, ll, lc, L, rfl, hA, hB, hrg, rfl, hr, hp⟩

end Go.Proofs.YtkdhcpfmlelfcaaGreatDoor
