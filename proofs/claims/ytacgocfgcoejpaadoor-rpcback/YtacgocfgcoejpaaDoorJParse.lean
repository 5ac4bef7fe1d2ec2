/- Json: Parse: what is caught, and the deferred call. -/
import Derived.Test.YtacgocfgcoejpaaDoorJVal
import Derived.Test.YtacgocfgcoejpaaDoorUVal
import Derived.Recover
import Derived.Defers
namespace Go.Proofs.YtacgocfgcoejpaaDoor
set_option linter.unusedVariables false
set_option linter.unusedSimpArgs false
set_option maxRecDepth 100000
open Go Go.RowKit Go.Shelf Go.Lib

theorem results_ft {fn : Func} {i : Tmp} (h : fn.results = #[.cell i 54]) {tmps : Array Value} {W : World} {b : Nat} {x y : Value} {t : TypeId} (hp : tmps.getD i undef = .pointer (some ⟨b, 0, none⟩)) (T : BoxC W b t #[x, y]) :
    (results fn tmps).run Tryd.prog W = .ok (.agg #[x, y]) W := by
  have c0 : W.cell? ⟨b, 0, none⟩ = some x := T.cell 0
  have c1 : W.cell? ⟨b, 1, none⟩ = some y := T.cell 1
  have hp' : tmps[i]?.getD undef = .pointer (some ⟨b, 0, none⟩) := by simpa using hp
  simp [results, h, hp', go_sem, c0, c1]

theorem assert_yes (W : World) (v : Value) : (Instr.typeAssert (.iface 54 v) 20 54 true).run Tryd.prog W = .ok (.tuple #[v, .bool true]) W := by kernel_rfl

set_option maxHeartbeats 4000000 in
theorem caught_calls (w : World) (p : Nat) (e : Int) :
    Calls Tryd.prog 20 #[faultV p e] w fun n w' => n = .returned (.agg #[.int .i64 (p : Int), .int .i64 e]) ∧ Below w.heap.size w w' := by
  have has := assert_yes
  unfold faultV
  go_enter Tryd.func20, Tryd.ntmps20
  go_wp2
  refine bodyPost_ret (results_ft rfl rfl ((BoxC.new w 54 #[.int .i64 (p : Int), .int .i64 e]).alloc _)) rfl ?_
  exact ⟨rfl, ((Below.refl _ w).alloc (Nat.le_refl _) _).alloc (by simp) _⟩

/-- What Parse answers into: three boxes. -/
structure ResJ (W : World) (A : Nat) (x y z u pv ev : Value) : Prop where
  v : BoxC W A 25 #[x, y, z, u]
  p : BoxC W (A + 1) 3 #[pv]
  e : BoxC W (A + 1 + 1) 29 #[ev]

theorem BoxC.drew {W : World} {B : Nat} {t : TypeId} {cs : Array Value} (h : BoxC W B t cs) : BoxC W.drew B t cs := h
theorem resJ_v {W : World} {A : Nat} {x y z u : Value} {t : TypeId} (h : BoxC W A t #[x, y, z, u]) (x' y' z' u' : Value) :
    BoxC ((((W.setCell ⟨A, 0, none⟩ x').setCell ⟨A, 1, none⟩ y').setCell ⟨A, 2, none⟩ z').setCell ⟨A, 3, none⟩ u') A t #[x', y', z', u'] := by
  have h1 : BoxC (W.setCell ⟨A, 0, none⟩ x') A t #[x', y, z, u] := h.set 0 x'
  have h2 : BoxC ((W.setCell ⟨A, 0, none⟩ x').setCell ⟨A, 1, none⟩ y') A t #[x', y', z, u] := h1.set 1 y'
  have h3 : BoxC (((W.setCell ⟨A, 0, none⟩ x').setCell ⟨A, 1, none⟩ y').setCell ⟨A, 2, none⟩ z') A t #[x', y', z', u] := h2.set 2 z'
  exact h3.set 3 u'
theorem box_off4 {W : World} {A B : Nat} {t : TypeId} {cs : Array Value} (h : BoxC W B t cs) (hne : B ≠ A) (x' y' z' u' : Value) :
    BoxC ((((W.setCell ⟨A, 0, none⟩ x').setCell ⟨A, 1, none⟩ y').setCell ⟨A, 2, none⟩ z').setCell ⟨A, 3, none⟩ u') B t cs :=
  (((h.other hne 0 x').other hne 1 y').other hne 2 z').other hne 3 u'
theorem resJ_put {W : World} {A : Nat} {x y z u pv ev : Value} (h : ResJ W A x y z u pv ev) (x' y' z' u' pv' ev' : Value) :
    ResJ ((((((W.setCell ⟨A, 0, none⟩ x').setCell ⟨A, 1, none⟩ y').setCell ⟨A, 2, none⟩ z').setCell ⟨A, 3, none⟩ u').setCell ⟨A + 1, 0, none⟩ pv').setCell ⟨A + 1 + 1, 0, none⟩ ev') A x' y' z' u' pv' ev' := by
  have n1 : A ≠ A + 1 := by omega
  have n2 : A ≠ A + 1 + 1 := by omega
  have n3 : A + 1 ≠ A + 1 + 1 := by omega
  refine ⟨((resJ_v h.v x' y' z' u').other n1 0 pv').other n2 0 ev', ?_, ?_⟩
  · have h1 := box_off4 h.p n1.symm x' y' z' u'
    have h2 : BoxC _ (A + 1) 3 #[pv'] := h1.set 0 pv'
    exact h2.other n3 0 ev'
  · have h1 := (box_off4 h.e n2.symm x' y' z' u').other n3.symm 0 pv'
    exact h1.set 0 ev'
theorem below_put {W w : World} {A n : Nat} (h : Below n w W) (h1 : n ≤ A) (x' y' z' u' pv' ev' : Value) :
    Below n w ((((((W.setCell ⟨A, 0, none⟩ x').setCell ⟨A, 1, none⟩ y').setCell ⟨A, 2, none⟩ z').setCell ⟨A, 3, none⟩ u').setCell ⟨A + 1, 0, none⟩ pv').setCell ⟨A + 1 + 1, 0, none⟩ ev') :=
  (((((h.setCell (p := ⟨A, 0, none⟩) h1 x').setCell (p := ⟨A, 1, none⟩) h1 y').setCell (p := ⟨A, 2, none⟩) h1 z').setCell (p := ⟨A, 3, none⟩) h1 u').setCell (p := ⟨A + 1, 0, none⟩) (Nat.le_succ_of_le h1) pv').setCell (p := ⟨A + 1 + 1, 0, none⟩) (Nat.le_succ_of_le (Nat.le_succ_of_le h1)) ev'
theorem resJ_drew {W : World} {A : Nat} {x y z u pv ev : Value} (h : ResJ W A x y z u pv ev) : ResJ W.drew A x y z u pv ev := ⟨h.v, h.p, h.e⟩

set_option maxHeartbeats 4000000 in
theorem parse1_pan (w : World) (A p : Nat) (e : Int) (x y z u pv ev : Value) (older : List PanicEntry) (h : ResJ w A x y z u pv ev) :
    CallsD Tryd.prog 23 #[.pointer (some ⟨A, 0, none⟩), .pointer (some ⟨A + 1, 0, none⟩), .pointer (some ⟨A + 1 + 1, 0, none⟩)] (.panicking ({ v := faultV p e, recovered := false } :: older)) w fun n u' w' =>
      n = .returned (.tuple #[]) ∧ u' = .panicking ({ v := faultV p e, recovered := true } :: older) ∧ ResJ w' A (.int .i64 0) (.string ⟨#[]⟩) (.slice none 0 0) (.slice none 0 0) (.int .i64 (p : Int)) (.int .i64 e) ∧ (∀ n, n ≤ A → n ≤ w.heap.size → Below n w w') := by
  refine callsD_of_wpS Tryd.func23 rfl fun c₀ cs hu => ?_
  apply wpS_seq
  apply wpS_region
  simp [wpOpsS, go_sem, recoverD, hu, Tryd.ntmps23, Exit.thenS]
  refine wpS_of_wp ?_
  have HC := hide (caught_calls w p e)
  have HH := hide h
  clear h
  unfold faultV at *
  simp only [Array.replicate_succ, Array.replicate_zero, List.push_toArray, List.append_toArray, List.nil_append, List.cons_append, List.setIfInBounds_toArray, List.set_cons_zero, List.set_cons_succ]
  go_wp2_with fail
  refine HC.out.mono ?_
  rintro n w1 ⟨rfl, hB⟩
  have hb2 := bel w1 (.cells #[.int .i64 (p : Int), .int .i64 e] 54)
  have hf2 := BoxC.new w1 54 #[.int .i64 (p : Int), .int .i64 e]
  have hv2 := (HH.out.v.below hB).below hb2
  have hp2 := (HH.out.p.below hB).below hb2
  have he2 := (HH.out.e.below hB).below hb2
  have HB2 : Hid (∀ n, n ≤ w.heap.size → Below n w (w1.alloc (.cells #[.int .i64 (p : Int), .int .i64 e] 54))) := fun n hn => (hB.mono hn).trans (hb2.mono (Nat.le_trans hn hB.size))
  have hlt : A + 1 + 1 < w1.heap.size := (HH.out.e.below hB).lt
  generalize hw2 : w1.alloc (.cells #[.int .i64 (p : Int), .int .i64 e] 54) = w2 at *
  generalize hBB : w1.heap.size = B at *
  have HW2 := hide hw2
  have HBB := hide hBB
  have a0 := hv2.cell 0
  have a1 := hv2.cell 1
  have a2 := hv2.cell 2
  have a3 := hv2.cell 3
  have b0 := hp2.cell 0
  have b1 := he2.cell 0
  have u0 := hf2.cell 0
  have u1 := hf2.cell 1
  simp only [List.getElem?_toArray, List.getElem?_cons_zero, List.getElem?_cons_succ, Nat.reduceAdd] at a0 a1 a2 a3 b0 b1 u0 u1
  have f0 := hv2.frozen 0
  have f1 := hv2.frozen 1
  have f2 := hv2.frozen 2
  have f3 := hv2.frozen 3
  have f4 := hp2.frozen 0
  have f5 := he2.frozen 0
  have HV := hide hv2
  have HP := hide hp2
  have HE := hide he2
  have n1 : ¬ A = B := by omega
  have n2 : ¬ A + 1 = B := by omega
  have n3 : ¬ A + 1 + 1 = B := by omega
  have m1 : ¬ B = A := by omega
  have m2 : ¬ B = A + 1 := by omega
  have m3 : ¬ B = A + 1 + 1 := by omega
  clear hB hb2 hf2 hv2 hp2 he2 hw2 hBB HC HH
  go_upto_region 3 with fail
  rw [HW2.out, HBB.out]
  clear HW2 HBB
  go_region
  show bodyPostS Tryd.prog Tryd.f23 c₀ cs _ _ _ _ _
  have hR := resJ_drew (resJ_put (W := w2) (A := A) ⟨HV.out, HP.out, HE.out⟩ (.int .i64 0) (.string ⟨#[]⟩) (.slice none 0 0) (.slice none 0 0) (.int .i64 (p : Int)) (.int .i64 e))
  have hBl := fun n (h1 : n ≤ A) (h2 : n ≤ w.heap.size) => (below_put (HB2.out n h2) h1 (.int .i64 0) (.string ⟨#[]⟩) (.slice none 0 0) (.slice none 0 0) (.int .i64 (p : Int)) (.int .i64 e)).drew
  exact ⟨rfl, _, rfl, .tuple #[], results_none rfl _ _ _, rfl, rfl, hR, hBl⟩

end Go.Proofs.YtacgocfgcoejpaaDoor
