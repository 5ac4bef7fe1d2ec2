/- lex.Items: the iterator of a text's items hands them over. -/
import Derived.Test.YtehflaenehehhaaLVRange
namespace Go.Proofs.Ytehflaenehehhaa
set_option linter.unusedVariables false
set_option linter.unusedSimpArgs false
open Go Go.RowKit Go.Shelf Go.Lib

attribute [local go_sem] Oper.semAt_some

/-- Does an item end with the k-th piece? Is that piece more than a blank or a remark? -/
def cutB (T : List Nat) (k : Nat) : Bool := decide (kindAt T (posP T k) = 4) && decide (nth T (posP T k) = 59)
def moreB (T : List Nat) (k : Nat) : Bool := decide (0 < kindAt T (posP T k)) || decide (kindAt T (posP T k) = -3)
/-- Behind k pieces: where the item that is under way began; is there more of it than blanks and remarks; the items that ended. -/
def itF (T : List Nat) : Nat → Nat
  | 0 => 0
  | k + 1 => if cutB T k then posP T (k + 1) else itF T k
def itB (T : List Nat) : Nat → Bool
  | 0 => false
  | k + 1 => if cutB T k then false else itB T k || moreB T k
def itL (T : List Nat) : Nat → List (Nat × Nat)
  | 0 => []
  | k + 1 => itL T k ++ if cutB T k then [(itF T k, posP T (k + 1))] else []
def itemsL (T : List Nat) (N : Nat) : List (Nat × Nat) := itL T N ++ if itB T N then [(itF T N, posP T N)] else []
def itemAt (T : List Nat) (N m : Nat) : Nat × Nat := (itemsL T N)[m]?.getD (0, 0)
def itemV (T : List Nat) (N m : Nat) : Array Value := #[.agg #[.int .i64 (((itemAt T N m).1 : Nat) : Int), .int .i64 (((itemAt T N m).2 : Nat) : Int)]]

theorem it_cut {T : List Nat} {k : Nat} (h : cutB T k = true) : itF T (k + 1) = posP T (k + 1) ∧ itB T (k + 1) = false ∧ itL T (k + 1) = itL T k ++ [(itF T k, posP T (k + 1))] := by
  refine ⟨?_, ?_, ?_⟩
  · show (if cutB T k = true then _ else _) = _; rw [if_pos h]
  · show (if cutB T k = true then _ else _) = _; rw [if_pos h]
  · show itL T k ++ (if cutB T k = true then _ else _) = _; rw [if_pos h]
theorem it_go {T : List Nat} {k : Nat} (h : cutB T k = false) : itF T (k + 1) = itF T k ∧ itB T (k + 1) = (itB T k || moreB T k) ∧ itL T (k + 1) = itL T k := by
  have h' : ¬ cutB T k = true := by rw [h]; decide
  refine ⟨?_, ?_, ?_⟩
  · show (if cutB T k = true then _ else _) = _; rw [if_neg h']
  · show (if cutB T k = true then _ else _) = _; rw [if_neg h']
  · show itL T k ++ (if cutB T k = true then _ else _) = _; rw [if_neg h', List.append_nil]
theorem itL_more (T : List Nat) (k : Nat) : ∀ n, ∃ R, itL T (k + n) = itL T k ++ R := by
  intro n
  induction n with
  | zero => exact ⟨[], by simp⟩
  | succ n ih =>
    obtain ⟨R, hR⟩ := ih
    refine ⟨R ++ if cutB T (k + n) then [(itF T (k + n), posP T (k + n + 1))] else [], ?_⟩
    show itL T (k + n) ++ _ = _
    rw [hR, List.append_assoc]
    rfl
theorem item_cut {T : List Nat} {N k : Nat} (hk : k < N) (h : cutB T k = true) : (itL T k).length < (itemsL T N).length ∧ itemAt T N (itL T k).length = (itF T k, posP T (k + 1)) := by
  obtain ⟨R, hR⟩ := itL_more T (k + 1) (N - (k + 1))
  rw [show k + 1 + (N - (k + 1)) = N by omega, (it_cut h).2.2] at hR
  unfold itemAt itemsL
  rw [hR]
  refine ⟨by simp, ?_⟩
  rw [List.append_assoc, List.append_assoc, List.getElem?_append_right (Nat.le_refl _)]
  simp
theorem item_last {T : List Nat} {N : Nat} (h : itB T N = true) : (itemsL T N).length = (itL T N).length + 1 ∧ itemAt T N (itL T N).length = (itF T N, posP T N) := by
  unfold itemAt itemsL
  rw [if_pos h]
  refine ⟨by simp, ?_⟩
  rw [List.getElem?_append_right (Nat.le_refl _)]
  simp
theorem item_none {T : List Nat} {N : Nat} (h : itB T N = false) : (itemsL T N).length = (itL T N).length := by
  unfold itemsL
  rw [if_neg (by rw [h]; decide)]
  simp

/-- What the iterator keeps in memory: whom it hands over to, the item under way, whether there is more of it, the bytes. -/
def Mine (s0 l : Nat) (ao : Option Addr) (cap : Nat) (T : List Nat) (k : Nat) (W : World) : Prop :=
  Boxed W s0 58 (.func (.yield l) #[] #[]) ∧ Box2 W (s0 + 1) 32 (.int .i64 ((itF T k : Nat) : Int)) (.int .i64 ((posP T k : Nat) : Int)) ∧ Boxed W (s0 + 2) 4 (.bool (itB T k)) ∧ Boxed W (s0 + 3) 22 (.slice ao T.length cap)
theorem Mine.kept {s0 l : Nat} {ao : Option Addr} {cap : Nat} {T : List Nat} {k : Nat} {W W' : World} (h : Mine s0 l ao cap T k W) (hk : ∀ (b : Nat) (o : Obj), s0 ≤ b → b < s0 + 4 → o.isCells = true → W.heap[b]? = some o → W'.heap[b]? = some o) : Mine s0 l ao cap T k W' :=
  ⟨hk _ _ (by omega) (by omega) rfl h.1, hk _ _ (by omega) (by omega) rfl h.2.1, hk _ _ (by omega) (by omega) rfl h.2.2.1, hk _ _ (by omega) (by omega) rfl h.2.2.2⟩
def Privy (s0 : Nat) (Pv : Nat → Prop) (W : World) : Prop := (∀ b, s0 ≤ b → b < s0 + 4 → Pv b) ∧ ∀ b, Pv b → s0 ≤ b ∧ b < W.heap.size

theorem round_wide {P : Program} {l l2 n m : Nat} {f : FuncId} {tmps : Array Value} {assign body : Code} {w : World} {R : Ending → World → Prop} (h : RoundIn Fence.wide n P l f tmps assign body w R) : RoundIn (Fence.wide.inRound l2) m P l f tmps assign body w R :=
  ⟨h.1, fun c cs _ => h.2 c cs (room_wide _)⟩
theorem round_wide0 {P : Program} {l n m : Nat} {f : FuncId} {tmps : Array Value} {assign body : Code} {w : World} {R : Ending → World → Prop} (h : RoundIn Fence.wide n P l f tmps assign body w R) : RoundIn Fence.wide m P l f tmps assign body w R :=
  ⟨h.1, fun c cs _ => h.2 c cs (room_wide _)⟩

theorem Box2.set0 {W : World} {B : Nat} {t : TypeId} {u v : Value} (h : Box2 W B t u v) (x : Value) : Box2 (W.setCell ⟨B, 0, none⟩ x) B t x v := by
  unfold Box2
  rw [Go.heap_setCell_same W B 0 _ _ _ h]
  rfl
theorem Box2.set1 {W : World} {B : Nat} {t : TypeId} {u v : Value} (h : Box2 W B t u v) (x : Value) : Box2 (W.setCell ⟨B, 1, none⟩ x) B t u x := by
  unfold Box2
  rw [Go.heap_setCell_same W B 1 _ _ _ h]
  rfl
theorem Box2.other' {W : World} {B : Nat} {t : TypeId} {u v : Value} {a : Addr} (h : Box2 W B t u v) (hne : B ≠ a.block) (x : Value) : Box2 (W.setCell a x) B t u v := (heap_setCell_other W a B x hne).trans h
theorem boxed_other' {W : World} {B : Nat} {t : TypeId} {v : Value} {a : Addr} (h : Boxed W B t v) (hne : B ≠ a.block) (u : Value) : Boxed (W.setCell a u) B t v := (heap_setCell_other W a B u hne).trans h
theorem Box2.frozen {W : World} {B : Nat} {t : TypeId} {u v : Value} (h : Box2 W B t u v) (i : Nat) : W.frozen? ⟨B, i, none⟩ = false := by simp [World.frozen?, show W.heap[B]? = _ from h]

/-- The slots of a round. -/
def itemAct (l Bs s0 : Nat) (ao : Option Addr) (cap : Nat) (T : List Nat) (k B : Nat) : Act :=
  { tmps := #[.func (.yield l) #[] #[], .pointer (some ⟨Bs, 0, none⟩), .pointer (some ⟨s0, 0, none⟩), .pointer (some ⟨s0 + 1, 0, none⟩), .pointer (some ⟨s0 + 1 + 1, 0, none⟩), .int .i64 (kindAt T (posP T k)), .pointer (some ⟨B, 0, none⟩), .agg #[.int .i64 0, .int .i64 0], .slice ao T.length cap, .func (.func 30) #[] #[.pointer (some ⟨s0 + 1 + 1 + 1, 0, none⟩)], .int .i64 (kindAt T (posP T k)), .agg #[.int .i64 ((posP T k : Nat) : Int), .int .i64 ((posP T (k + 1) : Nat) : Int)], undef, undef, undef, undef, undef, undef, undef, undef, undef, undef, undef, undef, undef, undef, undef, undef, undef, undef, undef, undef, undef, undef, undef, undef, undef, undef, undef, undef, undef, undef, undef, undef, undef], defers := [] }
/-- What a round finds. -/
def ItemB (l Bs s0 : Nat) (ao : Option Addr) (cap : Nat) (T : List Nat) (J : Nat → (Nat → Prop) → World → Prop) (p : Nat × Act) (W : World) : Prop :=
  ∃ Pv B, (p.2 = itemAct l Bs s0 ao cap T p.1 B ∧ s0 + 4 ≤ B ∧ Pv B) ∧ Box2 W B 32 (.int .i64 ((posP T p.1 : Nat) : Int)) (.int .i64 ((posP T (p.1 + 1) : Nat) : Int)) ∧ Mine s0 l ao cap T p.1 W ∧ Privy s0 Pv W ∧ J (itL T p.1).length Pv W
def ItemI (l s0 : Nat) (ao : Option Addr) (cap : Nat) (T : List Nat) (J : Nat → (Nat → Prop) → World → Prop) (k : Nat) (W : World) : Prop :=
  ∃ Pv, Mine s0 l ao cap T k W ∧ Privy s0 Pv W ∧ J (itL T k).length Pv W

theorem own_cells {W W' : World} {row : Option Nat} {C : Nat} (hg : W.grownBy W' row) (hr : ∀ r, row = some r → C ≤ r ∧ ∃ o : Obj, W.heap[r]? = some o ∧ o.isCells = false) {b : Nat} {o : Obj} (ho : W.heap[b]? = some o) (hc : o.isCells = true) : W'.heap[b]? = some o :=
  (hg.block b (Array.getElem?_eq_some_iff.1 ho).1 (fun e => by
    obtain ⟨_, o', h2, h3⟩ := hr b e.symm
    rw [ho] at h2
    cases h2
    rw [h3] at hc
    cases hc)).trans ho

/-- Two stores into one's own boxes: where the item ends by now, and whether there is more of it. -/
theorem mine_two {s0 l : Nat} {ao : Option Addr} {cap : Nat} {T : List Nat} {k : Nat} {X : World} (h : Mine s0 l ao cap T k X) (Q : Int) (mb : Bool) :
    Boxed ((X.setCell ⟨s0 + 1, 1, none⟩ (.int .i64 Q)).setCell ⟨s0 + 1 + 1, 0, none⟩ (.bool mb)) s0 58 (.func (.yield l) #[] #[]) ∧ Box2 ((X.setCell ⟨s0 + 1, 1, none⟩ (.int .i64 Q)).setCell ⟨s0 + 1 + 1, 0, none⟩ (.bool mb)) (s0 + 1) 32 (.int .i64 ((itF T k : Nat) : Int)) (.int .i64 Q) ∧
    Boxed ((X.setCell ⟨s0 + 1, 1, none⟩ (.int .i64 Q)).setCell ⟨s0 + 1 + 1, 0, none⟩ (.bool mb)) (s0 + 2) 4 (.bool mb) ∧ Boxed ((X.setCell ⟨s0 + 1, 1, none⟩ (.int .i64 Q)).setCell ⟨s0 + 1 + 1, 0, none⟩ (.bool mb)) (s0 + 3) 22 (.slice ao T.length cap) :=
  ⟨boxed_other' (boxed_other' h.1 (by show s0 ≠ s0 + 1; omega) _) (by show s0 ≠ s0 + 1 + 1; omega) _, Box2.other' (h.2.1.set1 _) (by show s0 + 1 ≠ s0 + 1 + 1; omega) _, Boxed.set _ (boxed_other' h.2.2.1 (by show s0 + 2 ≠ s0 + 1; omega) _), boxed_other' (boxed_other' h.2.2.2 (by show s0 + 3 ≠ s0 + 1; omega) _) (by show s0 + 3 ≠ s0 + 1 + 1; omega) _⟩
theorem turn_two {s0 i : Nat} {Pv : Nat → Prop} {D : Nat} (X : World) (hp : ∀ b, s0 ≤ b → b < s0 + 4 → Pv b) (u v : Value) : Turn D Pv X ((X.setCell ⟨s0 + 1, i, none⟩ u).setCell ⟨s0 + 1 + 1, 0, none⟩ v) :=
  (Turn.setCell X ⟨s0 + 1, i, none⟩ u (hp _ (by show s0 ≤ s0 + 1; omega) (by show s0 + 1 < s0 + 4; omega))).trans (Turn.setCell _ ⟨s0 + 1 + 1, 0, none⟩ v (hp _ (by show s0 ≤ s0 + 1 + 1; omega) (by show s0 + 1 + 1 < s0 + 4; omega))) (fun b hb => .inl hb)
theorem keep_two {s0 i C : Nat} (X : World) (u v : Value) : KeepsFrom C X ((X.setCell ⟨s0 + 1, i, none⟩ u).setCell ⟨s0 + 1 + 1, 0, none⟩ v) :=
  ((KeepsOthers.setCell _ _ _).trans (KeepsOthers.setCell _ _ _)).from _
theorem size_two {s0 i : Nat} (X : World) (u v : Value) : ((X.setCell ⟨s0 + 1, i, none⟩ u).setCell ⟨s0 + 1 + 1, 0, none⟩ v).heap.size = X.heap.size := by simp
theorem item_next {s0 l : Nat} {ao : Option Addr} {cap : Nat} {T : List Nat} {k : Nat} {X : World} {Pv : Nat → Prop} {J : Nat → (Nat → Prop) → World → Prop}
    (hSt : ∀ k Pv W2 W3 Pv', J k Pv W2 → Turn s0 Pv W2 W3 → (∀ b, Pv' b → Pv b ∨ (W2.heap.size ≤ b ∧ b < W3.heap.size)) → J k Pv' W3)
    (hm : Mine s0 l ao cap T k X) (hp : Privy s0 Pv X) (hj : J (itL T k).length Pv X) (hcut : cutB T k = false) (mb : Bool) (hmb : (itB T k || moreB T k) = mb) :
    ItemI l s0 ao cap T J (k + 1) ((X.setCell ⟨s0 + 1, 1, none⟩ (.int .i64 ((posP T (k + 1) : Nat) : Int))).setCell ⟨s0 + 1 + 1, 0, none⟩ (.bool mb)) := by
  obtain ⟨e1, e2, e3⟩ := it_go hcut
  obtain ⟨g0, g1, g2, g3⟩ := mine_two hm ((posP T (k + 1) : Nat) : Int) mb
  refine ⟨Pv, ⟨g0, ?_, ?_, g3⟩, ⟨hp.1, fun b hb => by rw [size_two]; exact hp.2 b hb⟩, ?_⟩
  · rw [e1]; exact g1
  · rw [e2, hmb]; exact g2
  · rw [e3]; exact hSt _ _ _ _ _ hj (turn_two X hp.1 _ _) (fun b hb => .inl hb)
theorem item_over {s0 l : Nat} {ao : Option Addr} {cap : Nat} {T : List Nat} {k : Nat} {X : World} {Pv : Nat → Prop} {J : Nat → (Nat → Prop) → World → Prop} {u v : Value}
    (hSt : ∀ k Pv W2 W3 Pv', J k Pv W2 → Turn s0 Pv W2 W3 → (∀ b, Pv' b → Pv b ∨ (W2.heap.size ≤ b ∧ b < W3.heap.size)) → J k Pv' W3)
    (b0 : Boxed X s0 58 (.func (.yield l) #[] #[])) (b1 : Box2 X (s0 + 1) 32 u (.int .i64 ((posP T (k + 1) : Nat) : Int))) (b2 : Boxed X (s0 + 2) 4 v) (b3 : Boxed X (s0 + 3) 22 (.slice ao T.length cap))
    (hp : Privy s0 Pv X) (hj : J ((itL T k).length + 1) Pv X) (hcut : cutB T k = true) :
    ItemI l s0 ao cap T J (k + 1) ((X.setCell ⟨s0 + 1, 0, none⟩ (.int .i64 ((posP T (k + 1) : Nat) : Int))).setCell ⟨s0 + 1 + 1, 0, none⟩ (.bool false)) := by
  obtain ⟨e1, e2, e3⟩ := it_cut hcut
  refine ⟨Pv, ⟨boxed_other' (boxed_other' b0 (by show s0 ≠ s0 + 1; omega) _) (by show s0 ≠ s0 + 1 + 1; omega) _, ?_, ?_, boxed_other' (boxed_other' b3 (by show s0 + 3 ≠ s0 + 1; omega) _) (by show s0 + 3 ≠ s0 + 1 + 1; omega) _⟩, ⟨hp.1, fun b hb => by rw [size_two]; exact hp.2 b hb⟩, ?_⟩
  · rw [e1]; exact Box2.other' (b1.set0 _) (by show s0 + 1 ≠ s0 + 1 + 1; omega) _
  · rw [e2]; exact Boxed.set _ (boxed_other' b2 (by show s0 + 2 ≠ s0 + 1; omega) _)
  · rw [e3, List.length_append]; exact hSt _ _ _ _ _ hj (turn_two X hp.1 _ _) (fun b hb => .inl hb)

set_option maxRecDepth 100000 in
set_option maxHeartbeats 8000000 in
theorem items_hands (Bs : Nat) (ao : Option Addr) (cap : Nat) (T : List Nat) (N : Nat) (h1 : ∀ k, k < N → posP T k < T.length) (h2 : posP T N = T.length) (hlen : T.length ≤ 1000000000) (hcap : T.length ≤ cap) :
    HandsV Try.prog 27 #[.pointer (some ⟨Bs, 0, none⟩)] (itemsL T N).length (itemV T N) (fun _ W => PieceKnow Bs ao cap T W) := by
  intro l J Jx W hKn hSt hStx hY h0
  obtain ⟨s0, hs0⟩ : ∃ s0, s0 = W.heap.size := ⟨_, rfl⟩
  rw [← hs0] at hSt hStx hY
  have HKn := hide hKn
  have HSt := hide hSt
  have HStx := hide hStx
  have HY := hide hY
  obtain ⟨hc0, hB0⟩ := hKn 0 _ W h0
  have ltB : Bs < W.heap.size := block_lt hc0
  have hcB : (((W.alloc (.cells #[.func (.yield l) #[] #[]] 58)).alloc (.cells #[.int .i64 0, .int .i64 0] 32)).alloc (.cells #[.bool false] 4)).cell? ⟨Bs, 0, none⟩ = some (.slice ao T.length cap) :=
    ((bafter (bafter (bel W _) (bel _ _) (Nat.le_refl _)) (bel _ _) (Nat.le_refl _)).cell (p := ⟨Bs, 0, none⟩) ltB).trans hc0
  clear hKn hSt hStx hY
  refine callsIn_wide.2 ((callsIn_wide (n := 3)).1 ?_)
  refine callsIn_of_wp_marks Try.func27 rfl trivial ?_ rfl
  simp only [Try.ntmps27, List.size_toArray, List.length_cons, List.length_nil, Nat.reduceAdd, Nat.reduceSub, Array.replicate_succ, Array.replicate_zero, List.push_toArray, List.append_toArray, List.nil_append, List.cons_append]
  gi_wp2_with (refine ⟨trivial, ?_⟩; gi_at_call 21; refine (callsIn_wide.2 (pieces_calls _ _ _ _)).mono ?_; rintro e w' ⟨rfl, rfl⟩)
  have hw0 := Boxed.new W 58 (.func (.yield l) #[] #[])
  have k0 := bel W (.cells #[.func (.yield l) #[] #[]] 58)
  generalize hA : W.alloc (.cells #[.func (.yield l) #[] #[]] 58) = wA at *
  have hzA : wA.heap.size = s0 + 1 := by rw [← hA, hs0]; simp
  have hw1 : Box2 (wA.alloc (.cells #[.int .i64 0, .int .i64 0] 32)) wA.heap.size 32 (.int .i64 0) (.int .i64 0) := World.alloc_heap_new _ _
  have k1 := bel wA (.cells #[.int .i64 0, .int .i64 0] 32)
  generalize hB : wA.alloc (.cells #[.int .i64 0, .int .i64 0] 32) = wB at *
  have hzB : wB.heap.size = s0 + 2 := by rw [← hB]; simp [hzA]
  have hw2 := Boxed.new wB 4 (.bool false)
  have k2 := bel wB (.cells #[.bool false] 4)
  generalize hC : wB.alloc (.cells #[.bool false] 4) = wC at *
  have hzC : wC.heap.size = s0 + 3 := by rw [← hC]; simp [hzB]
  have hw3 := Boxed.new wC 22 (.slice ao T.length cap)
  have k3 := bel wC (.cells #[.slice ao T.length cap] 22)
  generalize hD : wC.alloc (.cells #[.slice ao T.length cap] 22) = wD at *
  have hzD : wD.heap.size = s0 + 4 := by rw [← hD]; simp [hzC]
  have kAll : Below W.heap.size W wD := bafter (bafter (bafter k0 k1 (Nat.le_refl _)) k2 (Nat.le_refl _)) k3 (Nat.le_refl _)
  have hstart : ItemI l s0 ao cap T J 0 wD := by
    refine ⟨fun b => s0 ≤ b ∧ b < s0 + 4, ⟨?_, ?_, ?_, ?_⟩, ⟨fun b h1 h2 => ⟨h1, h2⟩, fun b hb => ⟨hb.1, by omega⟩⟩, ?_⟩
    · have := boxed_below (boxed_below (boxed_below hw0 k1) k2) k3
      rw [← hs0] at this
      exact this
    · have := (hw1.below k2).below k3
      rw [hzA] at this
      exact this
    · have := boxed_below hw2 k3
      rw [hzB] at this
      exact this
    · rw [hzC] at hw3
      exact hw3
    · exact HSt.out 0 _ W wD _ h0 (Turn.of_below kAll) (fun b hb => .inr ⟨by rw [← hs0]; exact hb.1, by rw [hzD]; exact hb.2⟩)
  have HB0 := hide hB0
  have HLB := hide ltB
  clear hw0 hw1 hw2 hw3 k0 k1 k2 k3 hA hB hC hD kAll hc0 hcB hB0 h0 ltB
  rw [← hs0]
  have HS0 := hide hs0
  clear hs0
  have own_I : OwnFrom (s0 + 4) (ItemI l s0 ao cap T J) := fun k X Y row ⟨Pv, hm, hp, hj⟩ hg hr =>
    ⟨Pv, hm.kept (fun b o _ _ hc ho => own_cells hg hr ho hc), ⟨hp.1, fun b hb => ⟨(hp.2 b hb).1, Nat.lt_of_lt_of_le (hp.2 b hb).2 hg.size⟩⟩, HSt.out _ _ _ _ _ hj (Turn.grown hg (fun r e => ⟨by have := (hr r e).1; omega, (hr r e).2⟩)) (fun b hb => .inl hb)⟩
  have own_B : OwnFrom (s0 + 4) (ItemB l Bs s0 ao cap T J) := fun p X Y row ⟨Pv, B, ha, hb, hm, hp, hj⟩ hg hr =>
    ⟨Pv, B, ha, own_cells hg hr hb rfl, hm.kept (fun b o _ _ hc ho => own_cells hg hr ho hc), ⟨hp.1, fun b hb => ⟨(hp.2 b hb).1, Nat.lt_of_lt_of_le (hp.2 b hb).2 hg.size⟩⟩, HSt.out _ _ _ _ _ hj (Turn.grown hg (fun r e => ⟨by have := (hr r e).1; omega, (hr r e).2⟩)) (fun b hb => .inl hb)⟩
  refine range_knownA (gf := 30) (lb := #[.pointer (some ⟨s0 + 1 + 1 + 1, 0, none⟩)]) ?hg (enters_of Try.func30 (by kernel_rfl) rfl)
    (pieces_hands (s0 + 3) ao cap T N h1 h2 hlen hcap) (fun _ => rfl)
    (ItemI l s0 ao cap T J)
    (fun c k W => c = .ret ∧ (itL T k).length < (itemsL T N).length ∧ ∃ Pv, Jx (itL T k).length Pv W)
    (by rw [hzD]; exact own_I)
    (fun c => by rw [hzD]; exact fun k X Y row ⟨hc, hl, Pv, hj⟩ hg hr => ⟨hc, hl, Pv, HStx.out _ _ _ _ hj (Turn.grown hg (fun r e => ⟨by have := (hr r e).1; omega, (hr r e).2⟩))⟩)
    ?know ?stable hstart (ItemB l Bs s0 ao cap T J) (by rw [hzD]; exact own_B) ?assign ?body ?done ?stop
  case hg => rfl
  case know =>
    rintro k X ⟨Pv, hm, hp, hj⟩
    exact ⟨hm.2.2.2.cell, (HKn.out _ _ _ hj).2⟩
  case stable =>
    rintro k X Y ⟨Pv, hm, hp, hj⟩ hb
    exact ⟨Pv, hm.kept (fun b o _ _ _ ho => (hb.block b (Array.getElem?_eq_some_iff.1 ho).1).trans ho), ⟨hp.1, fun b hb' => ⟨(hp.2 b hb').1, Nat.lt_of_lt_of_le (hp.2 b hb').2 hb.size⟩⟩, HSt.out _ _ _ _ _ hj (Turn.of_below hb) (fun b hb => .inl hb)⟩
  case assign =>
    rintro l2 k X K hk ⟨Pv, hm, hp, hj⟩ hK
    have hlt : s0 + 3 < X.heap.size := Box1.lt' hm.2.2.2
    have hb := bel X (.cells #[.int .i64 ((posP T k : Nat) : Int), .int .i64 ((posP T (k + 1) : Nat) : Int)] 32)
    have hK2 := hK (itemAct l Bs s0 ao cap T k X.heap.size) (X.alloc (.cells #[.int .i64 ((posP T k : Nat) : Int), .int .i64 ((posP T (k + 1) : Nat) : Int)] 32)) hb
      ⟨fun b => Pv b ∨ b = X.heap.size, X.heap.size, ⟨rfl, by omega, .inr rfl⟩, World.alloc_heap_new _ _, hm.kept (fun b o _ _ _ ho => (hb.block b (Array.getElem?_eq_some_iff.1 ho).1).trans ho),
        ⟨fun b h1 h2 => .inl (hp.1 b h1 h2), fun b hb' => by rcases hb' with g | g; exact ⟨(hp.2 b g).1, Nat.lt_of_lt_of_le (hp.2 b g).2 hb.size⟩; exact ⟨by omega, by rw [g]; simp⟩⟩,
        HSt.out _ _ _ _ _ hj (Turn.of_below hb) (fun b hb' => by rcases hb' with g | g; exact .inl g; exact .inr ⟨by omega, by rw [g]; simp⟩)⟩
    clear hK hm hp hj hb
    unfold itemAct at hK2
    unfold pieceV
    gi_wp2
    exact hK2
  case body =>
    rintro l2 k a1 X hk ⟨Pv, B, ⟨ha1, hBs, hPB⟩, hbx, hm, hp, hj⟩
    dsimp only at ha1 hbx hm hj
    subst ha1
    unfold itemAct
    have hpos := h1 k hk
    obtain ⟨kc, kby⟩ := HKn.out _ _ _ hj
    obtain ⟨bb, off, rfl⟩ : ∃ bb off, ao = some ⟨bb, off, none⟩ := by
      obtain ⟨_, _, e, _, hcs⟩ := kby
      cases e
      obtain ⟨bb, off, e, _⟩ := hcs 0 (by omega)
      exact ⟨bb, off, e⟩
    have cx : X.cell? ⟨bb, off + posP T k, none⟩ = some (.int .u8 ((nth T (posP T k) : Nat) : Int)) := by
      obtain ⟨_, _, e, _, hcs⟩ := kby
      cases e
      obtain ⟨_, _, e, hc⟩ := hcs (posP T k) hpos
      cases e
      exact hc
    have lbb : bb < s0 := by
      obtain ⟨_, _, e, _, hcs⟩ := HB0.out
      cases e
      obtain ⟨_, _, e, hc⟩ := hcs 0 (by omega)
      cases e
      rw [HS0.out]
      exact block_lt hc
    have lBs : Bs < s0 := by rw [HS0.out]; exact HLB.out
    have HM := hide hm
    have HP := hide hp
    have HJ := hide hj
    have HBX := hide hbx
    obtain ⟨m0, m1, m2, m3⟩ := hm
    have c0 := m0.cell
    have c10 : X.cell? ⟨s0 + 1, 0, none⟩ = _ := m1.cell0
    have c11 : X.cell? ⟨s0 + 1, 1, none⟩ = _ := m1.cell1
    have f10 : X.frozen? ⟨s0 + 1, 0, none⟩ = false := m1.frozen 0
    have f11 : X.frozen? ⟨s0 + 1, 1, none⟩ = false := m1.frozen 1
    have c2 : X.cell? ⟨s0 + 1 + 1, 0, none⟩ = some (.bool (itB T k)) := m2.cell
    have f2 : X.frozen? ⟨s0 + 1 + 1, 0, none⟩ = false := m2.frozen
    have b0 := hbx.cell0
    have b1 := hbx.cell1
    have n1 : ¬ s0 = s0 + 1 := by omega
    have n2 : ¬ s0 = s0 + 1 + 1 := by omega
    have n3 : ¬ s0 + 1 = s0 + 1 + 1 := by omega
    have n4 : ¬ s0 + 1 + 1 = s0 + 1 := by omega
    have n5 : ¬ Bs = s0 + 1 := by omega
    have n6 : ¬ Bs = s0 + 1 + 1 := by omega
    have n7 : ¬ bb = s0 + 1 := by omega
    have n8 : ¬ bb = s0 + 1 + 1 := by omega
    have n9 : ¬ B = s0 + 1 := by omega
    have n10 : ¬ B = s0 + 1 + 1 := by omega
    have dp : ((posP T k : Nat) : Int) < (T.length : Int) := by omega
    have dp0 : (0 : Int) ≤ ((posP T k : Nat) : Int) := by omega
    have HMO : Hid (moreB T k = (decide (0 < kindAt T (posP T k)) || decide (kindAt T (posP T k) = -3))) := rfl
    have HCB : Hid (cutB T k = (decide (kindAt T (posP T k) = 4) && decide (nth T (posP T k) = 59))) := rfl
    clear m0 m1 m2 m3 hp hj hbx kby h1 h2 hpos own_I own_B hstart
    cases hib : itB T k with
    | true =>
      have hcs : (kindAt T (posP T k) = 4 ∧ nth T (posP T k) = 59) ∨ (kindAt T (posP T k) = 4 ∧ nth T (posP T k) ≠ 59) ∨ (kindAt T (posP T k) ≠ 4 ∧ 0 < kindAt T (posP T k)) ∨ (kindAt T (posP T k) = -3) ∨ (kindAt T (posP T k) ≠ 4 ∧ ¬ 0 < kindAt T (posP T k) ∧ kindAt T (posP T k) ≠ -3) := by omega
      rw [hib] at c2
      have HIB := hide hib
      clear hib
      rcases hcs with ⟨g1, g2⟩ | ⟨g1, g2⟩ | ⟨g1, g2⟩ | g1 | ⟨g1, g2, g3⟩
      · have hcut : cutB T k = true := by rw [HCB.out]; simp [g1, g2]
        have HCUT := hide hcut
        obtain ⟨hml, hmi⟩ := item_cut hk hcut
        have HML := hide hml
        obtain ⟨X2, hX2⟩ : ∃ X2, X2 = (X.setCell ⟨s0 + 1, 1, none⟩ (.int .i64 ((posP T (k + 1) : Nat) : Int))).setCell ⟨s0 + 1 + 1, 0, none⟩ (.bool true) := ⟨_, rfl⟩
        obtain ⟨g0', g1', g2', g3'⟩ := mine_two HM.out ((posP T (k + 1) : Nat) : Int) true
        have hJ2 := HSt.out _ _ _ _ _ HJ.out (turn_two (i := 1) X HP.out.1 (.int .i64 ((posP T (k + 1) : Nat) : Int)) (.bool true)) (fun b hb => .inl hb)
        have hb2 := Box2.other' (a := ⟨s0 + 1 + 1, 0, none⟩) (Box2.other' (a := ⟨s0 + 1, 1, none⟩) HBX.out n9 (.int .i64 ((posP T (k + 1) : Nat) : Int))) n10 (.bool true)
        have hz2 := size_two (s0 := s0) (i := 1) X (.int .i64 ((posP T (k + 1) : Nat) : Int)) (.bool true)
        have hkf2 := keep_two (s0 := s0) (i := 1) (C := wD.heap.size) X (.int .i64 ((posP T (k + 1) : Nat) : Int)) (.bool true)
        have hy0 := HY.out _ Pv _ hml hJ2
        unfold itemV at hy0
        rw [hmi] at hy0
        obtain ⟨fn, tmps, assign, body, hy, hR⟩ := hy0
        have HR := hide hR
        have HG := hide (And.intro g0' (And.intro g1' (And.intro g2' (And.intro g3' (And.intro hb2 (And.intro hz2 hkf2))))))
        clear hX2 hcut hml hmi g0' g1' g2' g3' hJ2 hb2 hz2 hkf2 hR
        rw [g2] at cx
        have hgt : decide (kindAt T (posP T k) > 0) = true := by rw [g1]; rfl
        rw [g1] at hgt ⊢
        clear g1 g2
        generalize hKD : kindAt T (posP T k) = kd at *
        clear hKD
        gi_wp2_with fail
        refine ⟨trivial, ?_⟩
        gi_wp2
        refine round_wide (HR.out.mono ?_)
        rintro e X3 ⟨⟨kf, kp⟩, hres⟩
        obtain ⟨r0, r1, r2, r3, rb, rz, rk⟩ := HG.out
        have q0 : Boxed X3 s0 58 (.func (.yield l) #[] #[]) := kp _ _ (HP.out.1 _ (by omega) (by omega)) r0
        have q1 : Box2 X3 (s0 + 1) 32 (.int .i64 ((itF T k : Nat) : Int)) (.int .i64 ((posP T (k + 1) : Nat) : Int)) := kp _ _ (HP.out.1 _ (by omega) (by omega)) r1
        have q2 : Boxed X3 (s0 + 2) 4 (.bool true) := kp _ _ (HP.out.1 _ (by omega) (by omega)) r2
        have q3 : Boxed X3 (s0 + 3) 22 (.slice (some ⟨bb, off, none⟩) T.length cap) := kp _ _ (HP.out.1 _ (by omega) (by omega)) r3
        have qb : Box2 X3 B 32 (.int .i64 ((posP T k : Nat) : Int)) (.int .i64 ((posP T (k + 1) : Nat) : Int)) := kp _ _ hPB rb
        have hp3 : Privy s0 Pv X3 := ⟨HP.out.1, fun b hb => ⟨(HP.out.2 b hb).1, by have := (HP.out.2 b hb).2; have := kf.size; omega⟩⟩
        have kk : KeepsFrom wD.heap.size X X3 := rk.trans ⟨kf.size, fun b o hb => kf.same b o (by omega)⟩
        clear HR HG HM HJ HBX r0 r1 r2 r3 rb rz rk kf kp c0 c10 c11 f10 f11 c2 f2 b0 b1 cx kc hy
        rcases hres with ⟨rfl, hJ3⟩ | ⟨rfl, hJx3⟩
        · have HOV := hide (And.intro (kk.trans (keep_two (s0 := s0) (i := 0) X3 (.int .i64 ((posP T (k + 1) : Nat) : Int)) (.bool false))) (item_over HSt.out q0 q1 q2 q3 hp3 hJ3 HCUT.out))
          have y1 := qb.cell1
          have y2 := q1.cell0
          have y3 := q1.frozen 0
          have y4 : X3.cell? ⟨s0 + 1 + 1, 0, none⟩ = some (.bool true) := q2.cell
          have y5 : X3.frozen? ⟨s0 + 1 + 1, 0, none⟩ = false := q2.frozen
          clear q0 q1 q2 q3 qb hp3 kk hJ3
          gi_wp2
          exact HOV.out
        · have HXX := hide (And.intro kk (And.intro HML.out hJx3))
          clear q0 q1 q2 q3 qb hp3 kk hJx3
          gi_wp2
          exact ⟨HXX.out.1, rfl, HXX.out.2.1, Pv, HXX.out.2.2⟩
      · have hcut : cutB T k = false := by rw [HCB.out]; simp [g2]
        have hnx := item_next HSt.out HM.out HP.out HJ.out hcut true (by rw [HIB.out, HMO.out]; simp [g1])
        have HNX := hide (And.intro (keep_two (s0 := s0) (i := 1) (C := wD.heap.size) X (.int .i64 ((posP T (k + 1) : Nat) : Int)) (.bool true)) hnx)
        clear hcut hnx
        have dx : (((nth T (posP T k) : Nat) : Int) != 59) = true := by simp; omega
        have hgt : decide (kindAt T (posP T k) > 0) = true := by rw [g1]; rfl
        rw [g1] at hgt ⊢
        clear g1 g2
        generalize hKD : kindAt T (posP T k) = kd at *
        clear hKD
        gi_wp2_with fail
        refine ⟨trivial, ?_⟩
        gi_wp2
        exact HNX.out
      · have hcut : cutB T k = false := by rw [HCB.out]; simp [g1]
        have hnx := item_next HSt.out HM.out HP.out HJ.out hcut true (by rw [HIB.out, HMO.out]; simp [g2])
        have HNX := hide (And.intro (keep_two (s0 := s0) (i := 1) (C := wD.heap.size) X (.int .i64 ((posP T (k + 1) : Nat) : Int)) (.bool true)) hnx)
        clear hcut hnx
        have dk : (kindAt T (posP T k) != 4) = true := by simp [g1]
        have hgt : decide (kindAt T (posP T k) > 0) = true := decide_eq_true g2
        clear g1 g2
        generalize hKD : kindAt T (posP T k) = kd at *
        clear hKD
        gi_wp2_with fail
        refine ⟨trivial, ?_⟩
        gi_wp2
        exact HNX.out
      · have hcut : cutB T k = false := by rw [HCB.out]; simp [g1]
        have hnx := item_next HSt.out HM.out HP.out HJ.out hcut true (by rw [HIB.out, HMO.out]; simp [g1])
        have HNX := hide (And.intro (keep_two (s0 := s0) (i := 1) (C := wD.heap.size) X (.int .i64 ((posP T (k + 1) : Nat) : Int)) (.bool true)) hnx)
        clear hcut hnx
        have hgt : decide (kindAt T (posP T k) > 0) = false := by rw [g1]; rfl
        rw [g1] at hgt ⊢
        clear g1
        generalize hKD : kindAt T (posP T k) = kd at *
        clear hKD
        gi_wp2_with fail
        refine ⟨trivial, ?_⟩
        gi_wp2
        exact HNX.out
      · have hcut : cutB T k = false := by rw [HCB.out]; simp [g1]
        have hnx := item_next HSt.out HM.out HP.out HJ.out hcut true (by rw [HIB.out, HMO.out]; simp [g2, g3])
        have HNX := hide (And.intro (keep_two (s0 := s0) (i := 1) (C := wD.heap.size) X (.int .i64 ((posP T (k + 1) : Nat) : Int)) (.bool true)) hnx)
        clear hcut hnx
        have dk : (kindAt T (posP T k) != 4) = true := by simp [g1]
        have dk3 : (kindAt T (posP T k) == -3) = false := beq_eq_false_iff_ne.2 g3
        have hgt : decide (kindAt T (posP T k) > 0) = false := decide_eq_false g2
        clear g1 g2 g3
        generalize hKD : kindAt T (posP T k) = kd at *
        clear hKD
        gi_wp2_with fail
        refine ⟨trivial, ?_⟩
        gi_wp2
        exact HNX.out
    | false =>
      have hcs : (kindAt T (posP T k) = 4 ∧ nth T (posP T k) = 59) ∨ (kindAt T (posP T k) = 4 ∧ nth T (posP T k) ≠ 59) ∨ (kindAt T (posP T k) ≠ 4 ∧ 0 < kindAt T (posP T k)) ∨ (kindAt T (posP T k) = -3) ∨ (kindAt T (posP T k) ≠ 4 ∧ ¬ 0 < kindAt T (posP T k) ∧ kindAt T (posP T k) ≠ -3) := by omega
      rw [hib] at c2
      have HIB := hide hib
      clear hib
      rcases hcs with ⟨g1, g2⟩ | ⟨g1, g2⟩ | ⟨g1, g2⟩ | g1 | ⟨g1, g2, g3⟩
      · have hcut : cutB T k = true := by rw [HCB.out]; simp [g1, g2]
        have HCUT := hide hcut
        obtain ⟨hml, hmi⟩ := item_cut hk hcut
        have HML := hide hml
        obtain ⟨X2, hX2⟩ : ∃ X2, X2 = (X.setCell ⟨s0 + 1, 1, none⟩ (.int .i64 ((posP T (k + 1) : Nat) : Int))).setCell ⟨s0 + 1 + 1, 0, none⟩ (.bool true) := ⟨_, rfl⟩
        obtain ⟨g0', g1', g2', g3'⟩ := mine_two HM.out ((posP T (k + 1) : Nat) : Int) true
        have hJ2 := HSt.out _ _ _ _ _ HJ.out (turn_two (i := 1) X HP.out.1 (.int .i64 ((posP T (k + 1) : Nat) : Int)) (.bool true)) (fun b hb => .inl hb)
        have hb2 := Box2.other' (a := ⟨s0 + 1 + 1, 0, none⟩) (Box2.other' (a := ⟨s0 + 1, 1, none⟩) HBX.out n9 (.int .i64 ((posP T (k + 1) : Nat) : Int))) n10 (.bool true)
        have hz2 := size_two (s0 := s0) (i := 1) X (.int .i64 ((posP T (k + 1) : Nat) : Int)) (.bool true)
        have hkf2 := keep_two (s0 := s0) (i := 1) (C := wD.heap.size) X (.int .i64 ((posP T (k + 1) : Nat) : Int)) (.bool true)
        have hy0 := HY.out _ Pv _ hml hJ2
        unfold itemV at hy0
        rw [hmi] at hy0
        obtain ⟨fn, tmps, assign, body, hy, hR⟩ := hy0
        have HR := hide hR
        have HG := hide (And.intro g0' (And.intro g1' (And.intro g2' (And.intro g3' (And.intro hb2 (And.intro hz2 hkf2))))))
        clear hX2 hcut hml hmi g0' g1' g2' g3' hJ2 hb2 hz2 hkf2 hR
        rw [g2] at cx
        have hgt : decide (kindAt T (posP T k) > 0) = true := by rw [g1]; rfl
        rw [g1] at hgt ⊢
        clear g1 g2
        generalize hKD : kindAt T (posP T k) = kd at *
        clear hKD
        gi_wp2_with fail
        refine ⟨trivial, ?_⟩
        refine (CallsIn.inRound l2 (callsIn_wide.2 (isToken_calls _ _))).mono ?_
        rintro e w1 ⟨rfl, hw⟩
        rw [hw]
        clear hw
        rw [hgt]
        gi_wp2
        refine round_wide (HR.out.mono ?_)
        rintro e X3 ⟨⟨kf, kp⟩, hres⟩
        obtain ⟨r0, r1, r2, r3, rb, rz, rk⟩ := HG.out
        have q0 : Boxed X3 s0 58 (.func (.yield l) #[] #[]) := kp _ _ (HP.out.1 _ (by omega) (by omega)) r0
        have q1 : Box2 X3 (s0 + 1) 32 (.int .i64 ((itF T k : Nat) : Int)) (.int .i64 ((posP T (k + 1) : Nat) : Int)) := kp _ _ (HP.out.1 _ (by omega) (by omega)) r1
        have q2 : Boxed X3 (s0 + 2) 4 (.bool true) := kp _ _ (HP.out.1 _ (by omega) (by omega)) r2
        have q3 : Boxed X3 (s0 + 3) 22 (.slice (some ⟨bb, off, none⟩) T.length cap) := kp _ _ (HP.out.1 _ (by omega) (by omega)) r3
        have qb : Box2 X3 B 32 (.int .i64 ((posP T k : Nat) : Int)) (.int .i64 ((posP T (k + 1) : Nat) : Int)) := kp _ _ hPB rb
        have hp3 : Privy s0 Pv X3 := ⟨HP.out.1, fun b hb => ⟨(HP.out.2 b hb).1, by have := (HP.out.2 b hb).2; have := kf.size; omega⟩⟩
        have kk : KeepsFrom wD.heap.size X X3 := rk.trans ⟨kf.size, fun b o hb => kf.same b o (by omega)⟩
        clear HR HG HM HJ HBX r0 r1 r2 r3 rb rz rk kf kp c0 c10 c11 f10 f11 c2 f2 b0 b1 cx kc hy
        rcases hres with ⟨rfl, hJ3⟩ | ⟨rfl, hJx3⟩
        · have HOV := hide (And.intro (kk.trans (keep_two (s0 := s0) (i := 0) X3 (.int .i64 ((posP T (k + 1) : Nat) : Int)) (.bool false))) (item_over HSt.out q0 q1 q2 q3 hp3 hJ3 HCUT.out))
          have y1 := qb.cell1
          have y2 := q1.cell0
          have y3 := q1.frozen 0
          have y4 : X3.cell? ⟨s0 + 1 + 1, 0, none⟩ = some (.bool true) := q2.cell
          have y5 : X3.frozen? ⟨s0 + 1 + 1, 0, none⟩ = false := q2.frozen
          clear q0 q1 q2 q3 qb hp3 kk hJ3
          gi_wp2
          exact HOV.out
        · have HXX := hide (And.intro kk (And.intro HML.out hJx3))
          clear q0 q1 q2 q3 qb hp3 kk hJx3
          gi_wp2
          exact ⟨HXX.out.1, rfl, HXX.out.2.1, Pv, HXX.out.2.2⟩
      · have hcut : cutB T k = false := by rw [HCB.out]; simp [g2]
        have hnx := item_next HSt.out HM.out HP.out HJ.out hcut true (by rw [HIB.out, HMO.out]; simp [g1])
        have HNX := hide (And.intro (keep_two (s0 := s0) (i := 1) (C := wD.heap.size) X (.int .i64 ((posP T (k + 1) : Nat) : Int)) (.bool true)) hnx)
        clear hcut hnx
        have dx : (((nth T (posP T k) : Nat) : Int) != 59) = true := by simp; omega
        have hgt : decide (kindAt T (posP T k) > 0) = true := by rw [g1]; rfl
        rw [g1] at hgt ⊢
        clear g1 g2
        generalize hKD : kindAt T (posP T k) = kd at *
        clear hKD
        gi_wp2_with fail
        refine ⟨trivial, ?_⟩
        refine (CallsIn.inRound l2 (callsIn_wide.2 (isToken_calls _ _))).mono ?_
        rintro e w1 ⟨rfl, hw⟩
        rw [hw]
        clear hw
        rw [hgt]
        gi_wp2
        exact HNX.out
      · have hcut : cutB T k = false := by rw [HCB.out]; simp [g1]
        have hnx := item_next HSt.out HM.out HP.out HJ.out hcut true (by rw [HIB.out, HMO.out]; simp [g2])
        have HNX := hide (And.intro (keep_two (s0 := s0) (i := 1) (C := wD.heap.size) X (.int .i64 ((posP T (k + 1) : Nat) : Int)) (.bool true)) hnx)
        clear hcut hnx
        have dk : (kindAt T (posP T k) != 4) = true := by simp [g1]
        have hgt : decide (kindAt T (posP T k) > 0) = true := decide_eq_true g2
        clear g1 g2
        generalize hKD : kindAt T (posP T k) = kd at *
        clear hKD
        gi_wp2_with fail
        refine ⟨trivial, ?_⟩
        refine (CallsIn.inRound l2 (callsIn_wide.2 (isToken_calls _ _))).mono ?_
        rintro e w1 ⟨rfl, hw⟩
        rw [hw]
        clear hw
        rw [hgt]
        gi_wp2
        exact HNX.out
      · have hcut : cutB T k = false := by rw [HCB.out]; simp [g1]
        have hnx := item_next HSt.out HM.out HP.out HJ.out hcut true (by rw [HIB.out, HMO.out]; simp [g1])
        have HNX := hide (And.intro (keep_two (s0 := s0) (i := 1) (C := wD.heap.size) X (.int .i64 ((posP T (k + 1) : Nat) : Int)) (.bool true)) hnx)
        clear hcut hnx
        have hgt : decide (kindAt T (posP T k) > 0) = false := by rw [g1]; rfl
        rw [g1] at hgt ⊢
        clear g1
        generalize hKD : kindAt T (posP T k) = kd at *
        clear hKD
        gi_wp2_with fail
        refine ⟨trivial, ?_⟩
        refine (CallsIn.inRound l2 (callsIn_wide.2 (isToken_calls _ _))).mono ?_
        rintro e w1 ⟨rfl, hw⟩
        rw [hw]
        clear hw
        rw [hgt]
        gi_wp2
        exact HNX.out
      · have hcut : cutB T k = false := by rw [HCB.out]; simp [g1]
        have hnx := item_next HSt.out HM.out HP.out HJ.out hcut false (by rw [HIB.out, HMO.out]; simp [g2, g3])
        have HNX := hide (And.intro (keep_two (s0 := s0) (i := 1) (C := wD.heap.size) X (.int .i64 ((posP T (k + 1) : Nat) : Int)) (.bool false)) hnx)
        clear hcut hnx
        have dk : (kindAt T (posP T k) != 4) = true := by simp [g1]
        have dk3 : (kindAt T (posP T k) == -3) = false := beq_eq_false_iff_ne.2 g3
        have hgt : decide (kindAt T (posP T k) > 0) = false := decide_eq_false g2
        clear g1 g2 g3
        generalize hKD : kindAt T (posP T k) = kd at *
        clear hKD
        gi_wp2_with fail
        refine ⟨trivial, ?_⟩
        refine (CallsIn.inRound l2 (callsIn_wide.2 (isToken_calls _ _))).mono ?_
        rintro e w1 ⟨rfl, hw⟩
        rw [hw]
        clear hw
        rw [hgt]
        gi_wp2
        exact HNX.out
  case done =>
    rintro D X hD ⟨Pv, hm, hp, hj⟩ hK
    have hD0 : s0 ≤ D := by omega
    obtain ⟨m0, m1, m2, m3⟩ := hm
    have c0 := m0.cell
    have c10 : X.cell? ⟨s0 + 1, 0, none⟩ = _ := m1.cell0
    have c11 : X.cell? ⟨s0 + 1, 1, none⟩ = _ := m1.cell1
    have c2 : X.cell? ⟨s0 + 1 + 1, 0, none⟩ = some (.bool (itB T N)) := m2.cell
    have turnD : ∀ (Y : World), Y.heap[D]? = some (.deferred (some [])) → Turn s0 Pv Y (Y.putObj D (.deferred none)) := fun Y hY => Turn.grown (grownBy_putObj' Y D (.deferred none)) (fun r e => by cases e; exact ⟨hD0, _, hY, rfl⟩)
    have HTD := hide turnD
    have HJ := hide hj
    clear m0 m1 m2 m3 h1 h2 own_I own_B hstart hp hj turnD
    cases hib : itB T N with
    | false =>
      rw [hib] at c2
      have HL := hide (item_none hib)
      clear hib
      gi_wp2
      refine ⟨by simp, .inl ⟨_, _, rfl, run_takeDeferred hK, ?_⟩⟩
      refine ⟨.tuple #[], ?_, ⟨_, rfl⟩, .inl ⟨Pv, ?_⟩⟩
      · simp [results, Try.f27, go_sem]
      · rw [HL.out]
        exact HSt.out _ _ _ _ _ HJ.out (HTD.out X hK) (fun b hb => .inl hb)
    | true =>
      rw [hib] at c2
      obtain ⟨hln, hmi⟩ := item_last hib
      have HL := hide hln
      have hy0 := HY.out (itL T N).length Pv X (by rw [hln]; exact Nat.lt_succ_self _) HJ.out
      unfold itemV at hy0
      rw [hmi] at hy0
      obtain ⟨fn, tmps, assign, body, hy, hR⟩ := hy0
      have HR := hide hR
      clear hib hln hmi hR
      gi_wp2
      refine round_wide0 (HR.out.mono ?_)
      rintro e X3 ⟨⟨kf, kp⟩, hres⟩
      have hK3 := kf.same D _ hD0 hK rfl
      clear kf kp hK hy c0 c10 c11 c2 HR
      rcases hres with ⟨rfl, hJ3⟩ | ⟨rfl, hJx3⟩
      · have HJ3 := hide hJ3
        clear hJ3
        gi_wp2
        refine ⟨by simp, .inl ⟨_, _, rfl, run_takeDeferred hK3, ?_⟩⟩
        refine ⟨.tuple #[], ?_, ⟨_, rfl⟩, .inl ⟨Pv, ?_⟩⟩
        · simp [results, Try.f27, go_sem]
        · rw [HL.out]
          exact HSt.out _ _ _ _ _ HJ3.out (HTD.out X3 hK3) (fun b hb => .inl hb)
      · have HJ3 := hide hJx3
        clear hJx3
        gi_wp2
        refine ⟨by simp, .inl ⟨_, _, rfl, run_takeDeferred hK3, ?_⟩⟩
        refine ⟨.tuple #[], ?_, ⟨_, rfl⟩, .inr ⟨(itL T N).length, Pv, by rw [HL.out]; exact Nat.lt_succ_self _, ?_⟩⟩
        · simp [results, Try.f27, go_sem]
        · exact HStx.out _ _ _ _ HJ3.out (HTD.out X3 hK3)
  case stop =>
    rintro D c k X hD hk ⟨rfl, hl, Pv, hj⟩ hK
    have hD0 : s0 ≤ D := by omega
    gi_wp2
    refine ⟨by simp, .inl ⟨_, _, rfl, run_takeDeferred hK, ?_⟩⟩
    refine ⟨.tuple #[], ?_, ⟨_, rfl⟩, .inr ⟨_, Pv, hl, HStx.out _ _ _ _ hj (Turn.grown (grownBy_putObj' X D (.deferred none)) (fun r e => by cases e; exact ⟨hD0, _, hK, rfl⟩))⟩⟩
    simp [results, Try.f27, go_sem]


end Go.Proofs.Ytehflaenehehhaa
