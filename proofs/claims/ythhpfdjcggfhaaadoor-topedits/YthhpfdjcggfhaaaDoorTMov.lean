/- What an edit does to a span: putsAt, growth. -/
import Derived.Test.YthhpfdjcggfhaaaDoorUMem
import Derived.RangeFuncRecord
import Derived.OwnWalk
namespace Go.Proofs.YthhpfdjcggfhaaaDoor
set_option linter.unusedVariables false
set_option linter.unusedSimpArgs false
set_option maxRecDepth 100000
open Go Go.RowKit Go.Shelf Go.Lib

/-- A box of some cells. -/
def BoxC (W : World) (B : Nat) (t : TypeId) (cs : Array Value) : Prop := W.heap[B]? = some (.cells cs t (0, 0))
theorem BoxC.new (W : World) (t : TypeId) (cs : Array Value) : BoxC (W.alloc (.cells cs t)) W.heap.size t cs := World.alloc_heap_new W _
theorem BoxC.lt {W : World} {B : Nat} {t : TypeId} {cs : Array Value} (h : BoxC W B t cs) : B < W.heap.size := (Array.getElem?_eq_some_iff.1 h).1
theorem BoxC.kept {W W' : World} {row : Option Nat} {B : Nat} {t : TypeId} {cs : Array Value} (h : BoxC W B t cs) (hg : W.grownBy W' row) (hne : some B ≠ row) : BoxC W' B t cs := (hg.block B h.lt hne).trans h
theorem BoxC.alloc {W : World} {B : Nat} {t : TypeId} {cs : Array Value} (h : BoxC W B t cs) (o : Obj) : BoxC (W.alloc o) B t cs := h.kept (World.grownBy_alloc W o none) (by simp)
theorem BoxC.below {W W' : World} {B : Nat} {t : TypeId} {cs : Array Value} (h : BoxC W B t cs) (hb : Below W.heap.size W W') : BoxC W' B t cs := (hb.block B h.lt).trans h
theorem BoxC.cell {W : World} {B : Nat} {t : TypeId} {cs : Array Value} (h : BoxC W B t cs) (i : Nat) : W.cell? ⟨B, i, none⟩ = cs[i]? := by simp [World.cell?, show W.heap[B]? = _ from h]
theorem BoxC.frozen {W : World} {B : Nat} {t : TypeId} {cs : Array Value} (h : BoxC W B t cs) (i : Nat) : W.frozen? ⟨B, i, none⟩ = false := by simp [World.frozen?, show W.heap[B]? = _ from h]

theorem BoxC.set {W : World} {B : Nat} {t : TypeId} {cs : Array Value} (h : BoxC W B t cs) (i : Nat) (x : Value) : BoxC (W.setCell ⟨B, i, none⟩ x) B t (cs.set! i x) := heap_setCell_same W B i _ _ x h
theorem BoxC.other {W : World} {B C : Nat} {t : TypeId} {cs : Array Value} (h : BoxC W B t cs) (hne : B ≠ C) (i : Nat) (x : Value) : BoxC (W.setCell ⟨C, i, none⟩ x) B t cs := (heap_setCell_other W ⟨C, i, none⟩ B x hne).trans h

/-- An edit: from, to, size. -/
abbrev Ed := Int × Int × Int
def edV (x : Ed) : Value := .agg #[.int .i64 x.1, .int .i64 x.2.1, .int .i64 x.2.2]
def growL (x : Ed) : Int := wrap64 (x.2.2 - wrap64 (x.2.1 - x.1))
def putsB (x : Ed) (f t : Int) : Bool := decide (f = t) && (decide (x.1 = f) && decide (x.2.1 = t))

set_option maxHeartbeats 2000000 in
theorem growth_calls (w : World) (a b z : Int) :
    Calls Tryd.prog 42 #[.agg #[.int .i64 a, .int .i64 b, .int .i64 z]] w fun e w' => e = .returned (.int .i64 (growL (a, b, z))) ∧ Below w.heap.size w w' := by
  have hB := hide (bel w (.cells #[.int .i64 a, .int .i64 b, .int .i64 z] 66))
  go_enter Tryd.func42, Tryd.ntmps42
  go_wp2
  go_ret
  exact ⟨rfl, hB.out⟩

set_option maxHeartbeats 2000000 in
theorem putsAt_calls (w : World) (a b z f t : Int) :
    Calls Tryd.prog 41 #[.agg #[.int .i64 a, .int .i64 b, .int .i64 z], .agg #[.int .i64 f, .int .i64 t]] w fun e w' => e = .returned (.bool (putsB (a, b, z) f t)) ∧ Below w.heap.size w w' := by
  have hB := hide ((bel w (.cells #[.int .i64 a, .int .i64 b, .int .i64 z] 66)).alloc (by simp) (.cells #[.int .i64 f, .int .i64 t] 56))
  by_cases h : f = t
  · subst h
    by_cases h1 : a = f
    · subst h1
      by_cases h2 : b = a
      · subst h2
        go_enter Tryd.func41, Tryd.ntmps41
        go_wp2
        go_ret
        refine ⟨?_, hB.out⟩
        simp [putsB]
      · go_enter Tryd.func41, Tryd.ntmps41
        go_wp2
        go_ret
        refine ⟨?_, hB.out⟩
        simp [putsB, h2]
    · go_enter Tryd.func41, Tryd.ntmps41
      go_wp2
      go_ret
      refine ⟨?_, hB.out⟩
      simp [putsB, h1]
  · go_enter Tryd.func41, Tryd.ntmps41
    go_wp2
    go_ret
    refine ⟨?_, hB.out⟩
    simp [putsB, h]

end Go.Proofs.YthhpfdjcggfhaaaDoor
