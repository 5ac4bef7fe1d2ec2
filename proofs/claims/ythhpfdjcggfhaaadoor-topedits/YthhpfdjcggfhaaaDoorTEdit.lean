/- A change by bytes: edit. -/
import Derived.Test.YthhpfdjcggfhaaaDoorTBody
import Derived.Deep.DeepMust
import Derived.Deep.CutRange
import Derived.Deep.RegionWith
namespace Go.Proofs.YthhpfdjcggfhaaaDoor
set_option linter.unusedVariables false
set_option linter.unusedSimpArgs false
set_option maxRecDepth 100000
open Go Go.RowKit Go.Shelf Go.Lib

theorem results_edit {fn : Func} {i : Tmp} (h : fn.results = #[.cell i 66]) {tmps : Array Value} {W : World} {b : Nat} {x y z : Value} {t : TypeId} (hp : tmps.getD i undef = .pointer (some ⟨b, 0, none⟩)) (T : BoxC W b t #[x, y, z]) :
    (results fn tmps).run Tryd.prog W = .ok (.agg #[x, y, z]) W := by
  have c0 : W.cell? ⟨b, 0, none⟩ = some x := T.cell 0
  have c1 : W.cell? ⟨b, 1, none⟩ = some y := T.cell 1
  have c2 : W.cell? ⟨b, 2, none⟩ = some z := T.cell 2
  have hp' : tmps[i]?.getD undef = .pointer (some ⟨b, 0, none⟩) := by simpa using hp
  simp [results, h, hp', go_sem, c0, c1, c2]

/-- A change, as a value. -/
def chV (rg : Bool) (p u q v : Int) (X : List Nat) : Value := .agg #[.bool rg, .int .i64 p, .int .i64 u, .int .i64 q, .int .i64 v, .string (strOf X)]

theorem boffset_from {W w : World} (hb : Below W.heap.size W w) {ao : Option Addr} {cap : Nat} {lo : Option Addr} {ln lc : Nat} {T : List Nat} (p u : Int) (h : Body W ao cap (.slice lo ln lc) T) (hK : Know W) (hlen : T.length ≤ 1000000000) :
    Calls Tryd.prog 35 #[.agg #[.slice ao T.length cap, .slice lo ln lc], .agg #[.int .i64 p, .int .i64 u]] w fun e w' => ∃ r : Int, e = .returned (.int .i64 r) ∧ OffR T (linesL T) p u r ∧ Below W.heap.size W w' :=
  (boffset_calls w ao cap lo ln lc T p u (h.below hb) (hK.below hb) hlen).mono fun e w' ⟨r, h1, h2, h3⟩ => ⟨r, h1, h2, bafter hb h3 (Nat.le_refl _)⟩

set_option maxHeartbeats 4000000 in
theorem edit_calls (w : World) (ao : Option Addr) (cap : Nat) (lo : Option Addr) (ln lc : Nat) (T : List Nat) (p u q v : Int) (X : List Nat) (h : Body w ao cap (.slice lo ln lc) T) (hK : Know w) (hlen : T.length ≤ 1000000000) :
    Calls Tryd.prog 45 #[.agg #[.slice ao T.length cap, .slice lo ln lc], chV true p u q v X] w fun e w' => ∃ f t : Int, e = .returned (.agg #[.int .i64 f, .int .i64 (max f t), .int .i64 (X.length : Int)]) ∧ OffR T (linesL T) p u f ∧ OffR T (linesL T) q v t ∧ Below w.heap.size w w' := by
  have H := hide h
  have HK := hide hK
  clear h hK
  have hX : (strOf X).size = X.length := strOf_size X
  generalize hsx : strOf X = sx at *
  unfold chV
  rw [hsx]
  clear hsx
  generalize hW0 : ((w.alloc (.cells #[.slice ao T.length cap, .slice lo ln lc] 40)).alloc (.cells #[.bool true, .int .i64 p, .int .i64 u, .int .i64 q, .int .i64 v, .string sx] 71)).alloc (.cells #[.int .i64 0, .int .i64 0, .int .i64 0] 66) = W0
  have hb0 : Below w.heap.size w W0 := by
    rw [← hW0]
    exact ((bel w _).alloc (by simp) _).alloc (by simp; omega) _
  have x0 : BoxC W0 w.heap.size 40 #[.slice ao T.length cap, .slice lo ln lc] := by
    rw [← hW0]; exact ((BoxC.new w _ _).alloc _).alloc _
  have x1 : BoxC W0 (w.heap.size + 1) 71 #[.bool true, .int .i64 p, .int .i64 u, .int .i64 q, .int .i64 v, .string sx] := by
    have := (BoxC.new (w.alloc (.cells #[.slice ao T.length cap, .slice lo ln lc] 40)) 71 #[.bool true, .int .i64 p, .int .i64 u, .int .i64 q, .int .i64 v, .string sx]).alloc (.cells #[.int .i64 0, .int .i64 0, .int .i64 0] 66)
    rw [← hW0]; simpa using this
  have x2 : BoxC W0 (w.heap.size + 1 + 1) 66 #[.int .i64 0, .int .i64 0, .int .i64 0] := by
    have := BoxC.new ((w.alloc (.cells #[.slice ao T.length cap, .slice lo ln lc] 40)).alloc (.cells #[.bool true, .int .i64 p, .int .i64 u, .int .i64 q, .int .i64 v, .string sx] 71)) 66 #[.int .i64 0, .int .i64 0, .int .i64 0]
    rw [← hW0]; simpa using this
  have X0 := hide x0
  have X1 := hide x1
  have X2 := hide x2
  have HB0 := hide hb0
  have HW := hide hW0
  clear x0 x1 x2 hb0 hW0
  go_enter Tryd.func45, Tryd.ntmps45
  go_wp2_with fail
  rw [HW.out]
  clear HW
  refine (boffset_calls W0 ao cap lo ln lc T p u (H.out.below HB0.out) (HK.out.below HB0.out) hlen).mono ?_
  rintro e w1 ⟨f, rfl, hf, hb1⟩
  have HF := hide hf
  have HBD := hide ((H.out.below HB0.out).below hb1)
  have HK1 := hide ((HK.out.below HB0.out).below hb1)
  have y0 := X0.out.below hb1
  have y1 := X1.out.below hb1
  have y2 := X2.out.below hb1
  have HB1 := hide (bafter HB0.out hb1 (by have := HB0.out.size; omega))
  have c0 : w1.cell? ⟨w.heap.size, 0, none⟩ = some (.slice ao T.length cap) := y0.cell 0
  have c1 : w1.cell? ⟨w.heap.size, 1, none⟩ = some (.slice lo ln lc) := y0.cell 1
  have d3 : w1.cell? ⟨w.heap.size + 1, 3, none⟩ = some (.int .i64 q) := y1.cell 3
  have d4 : w1.cell? ⟨w.heap.size + 1, 4, none⟩ = some (.int .i64 v) := y1.cell 4
  have d5 : w1.cell? ⟨w.heap.size + 1, 5, none⟩ = some (.string sx) := y1.cell 5
  have e0 : w1.cell? ⟨w.heap.size + 1 + 1, 0, none⟩ = some (.int .i64 0) := y2.cell 0
  have e1 : w1.cell? ⟨w.heap.size + 1 + 1, 1, none⟩ = some (.int .i64 0) := y2.cell 1
  have e2 : w1.cell? ⟨w.heap.size + 1 + 1, 2, none⟩ = some (.int .i64 0) := y2.cell 2
  have g0 := y2.frozen 0
  have g1 := y2.frozen 1
  have g2 := y2.frozen 2
  have l0 := y0.lt
  have l1 := y1.lt
  have l2 := y2.lt
  have Y0 := hide y0
  have Y1 := hide y1
  have Y2 := hide y2
  clear y0 y1 y2 hf hb1 X0 X1 X2 HB0 H HK
  go_upto_region 4 with fail
  go_region_with (go_at_call 35; go_must (refine (boffset_from (W := w1) ?_ q v HBD.out HK1.out hlen).mono ?_; (first | exact Below.refl _ _ | exact (Below.refl _ _).drew | exact (Below.refl _ _).drew.drew); rintro e w3 ⟨t, rfl, ht, hb3⟩; have yy := Y2.out.below hb3; have r1 : w3.cell? ⟨w.heap.size + 1, 5, none⟩ = some (.string sx) := (Y1.out.below hb3).cell 5; have r2 : w3.cell? ⟨w.heap.size + 1 + 1, 0, none⟩ = some (.int .i64 0) := yy.cell 0; have r3 : w3.cell? ⟨w.heap.size + 1 + 1, 1, none⟩ = some (.int .i64 0) := yy.cell 1; have r4 : w3.cell? ⟨w.heap.size + 1 + 1, 2, none⟩ = some (.int .i64 0) := yy.cell 2; have r5 := yy.frozen 0; have r6 := yy.frozen 1; have r7 := yy.frozen 2; have r8 := yy.lt))
  all_goals
    have R2 := hide (Y2.out.below hb3)
    have RB := hide (bafter HB1.out hb3 (by have := HB1.out.size; omega))
    have HT := hide ht
    clear ht hb3 yy Y0 Y1 Y2 HB1 HBD HK1
    go_wp2
    refine bodyPost_ret (results_edit rfl rfl (((R2.out.set 0 _).set 1 _).set 2 _)) rfl ?_
    exact ⟨f, t, rfl, HF.out, HT.out, ((RB.out.setCell (p := ⟨w.heap.size + 1 + 1, 0, none⟩) (by show w.heap.size ≤ w.heap.size + 1 + 1; omega) _).setCell (p := ⟨w.heap.size + 1 + 1, 1, none⟩) (by show w.heap.size ≤ w.heap.size + 1 + 1; omega) _).setCell (p := ⟨w.heap.size + 1 + 1, 2, none⟩) (by show w.heap.size ≤ w.heap.size + 1 + 1; omega) _⟩

end Go.Proofs.YthhpfdjcggfhaaaDoor
