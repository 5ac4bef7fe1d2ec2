/- Parts in their one form: slices.Clone at parts, withoutZeros, tidy. -/
import Derived.Test.YtbjolmgobeagoaaGreatDoorLnSort
import Derived.Test.YtbjolmgobeagoaaGreatDoorBigLaw2
import Derived.Deep.RegionHeld3
import Derived.Laws.MakeOwn
namespace Go.Proofs.YtbjolmgobeagoaaGreatDoor
set_option linter.unusedVariables false
set_option linter.unusedSimpArgs false
set_option maxRecDepth 100000
open Go Go.RowKit Go.Shelf Go.Lib

theorem takeD {P : Program} {md : Region.Mode} {ops : Array Oper} {Q : Exit → Act → World → Prop} {S : World → Prop} {i : Nat} {oi : Oper} {v : Value} {fuel : Nat} {listed : Array Bool} {a : Act} {w : World} (d : Option Tmp) (hi : ops[i]? = some oi)
    (hs : Region.noSelect ops = true) (hf : Region.free md ops listed i = true) (hr : (Region.ready md ops listed).contains i = true)
    (hQ : ∀ c a w, Q (.panic c) (a.put oi.dst v) w → Q (.panic c) a w) (hy : YieldsIf P ops S oi v a) (hS : S w) (hd : oi.dst = d)
    (h : wpAnyH P md ops Q S fuel (listed.setIfInBounds i true) (a.put d v) w) : wpAnyH P md ops Q S (fuel + 1) listed a w :=
  wpAnyH_take hi hs hf hr hQ hy hS (by rw [hd]; exact h)

theorem own_made {n : Nat} (w : World) (cap : Nat) (hn : n ≤ w.heap.size) (hc : cap ≤ maxLen) : OwnP n (w.alloc (.cells (Builtin.zeroCells zPart.cells cap) 89)) (.slice (some ⟨w.heap.size, 0, none⟩) 0 cap) [] := by
  refine ⟨⟨rfl, .inr ⟨w.heap.size, cap, _, rfl, hn, heap_alloc_new w _, Nat.zero_le _, hc, size_zeroCells _ _, rfl⟩⟩, fun g i u hg hi hc => ?_⟩
  simp only [Value.ownBlock, Option.some.injEq] at hg
  subst hg
  have h2 := heap_alloc_new w (.cells (Builtin.zeroCells zPart.cells cap) 89)
  unfold World.cell? at hc
  simp only [h2] at hc
  exact mem_zeroCells (n := cap) (i := i) (by simpa using hc)

theorem make_parts (w : World) (n : Nat) (hn : n ≤ 1048576) : (Instr.makeSlice 25 (.int .i64 0) (.int .i64 (n : Int))).run Tryz.prog w = .ok (.slice (some ⟨w.heap.size, 0, none⟩) 0 n) (w.alloc (.cells (Builtin.zeroCells zPart.cells n) 89)) := by
  obtain ⟨i0, hi, hz0, hz1, hz2⟩ := info_parts infoPart
  have h := run_make (P := Tryz.prog) w 25 89 i0 zPart Tryz.underlying25 hi hz0 .i64 .i64 0 (n : Int) (Int.le_refl _) (by omega) (by rw [hz2]; omega) (by omega)
  simp only [Int.toNat_zero, Int.toNat_natCast, hz1] at h
  rw [h]
  rfl
theorem own_made0 (w : World) : OwnP w.heap.size (w.alloc (.cells #[] 89)) (.slice (some ⟨w.heap.size, 0, none⟩) 0 0) [] := by
  have h := own_made (n := w.heap.size) w 0 (Nat.le_refl _) (by simp [maxLen])
  rw [show Builtin.zeroCells zPart.cells 0 = #[] by simp [Builtin.zeroCells]] at h
  exact h
theorem eq_nil_parts (w : World) (a : Option Addr) (n c n' c' : Nat) : (binOp .eql 25 (.slice a n c) (.slice none n' c')).run Tryz.prog w = .ok (.bool a.isNone) w := Lib.run_eql_slice_nil w _ _ a n c n' c' Tryz.underlying25
theorem row_lit (W : World) (a : Int) (b : Bool) (c : Value) (z : Int) : RowP (W.alloc (.cells #[.int .i64 a, .bool b, c] 89)) (.slice (some ⟨W.heap.size, 0, none⟩) 1 1) [(a, b, c, z)] := by
  refine ⟨some ⟨W.heap.size, 0, none⟩, 1, rfl, Nat.le_refl _, by simp [maxLen], fun j m hj => ?_⟩
  cases j with
  | zero =>
    simp at hj
    subst hj
    exact ⟨_, _, rfl, World.cell?_alloc_mark W _ _ (0, 0) 0, World.cell?_alloc_mark W _ _ (0, 0) 1, World.cell?_alloc_mark W _ _ (0, 0) 2⟩
  | succ j => simp at hj
def CloneE (w : World) (M : List Pt) (e : Ending) (w' : World) : Prop := ∃ v', e = .returned v' ∧ OwnP w.heap.size w' v' M ∧ Below w.heap.size w w'
set_option maxHeartbeats 2000000 in
theorem clone_calls {w : World} {v : Value} {M : List Pt} (hr : RowP w v M) (hsl : Sl M) (hlm : M.length ≤ 1048576) :
    Calls Tryz.prog 53 #[v] w fun e w' => CloneE w M e w' := by
  have HR := hide hr
  obtain ⟨ao, cap, rfl, h1, h2, h3⟩ := hr
  cases ao with
  | none =>
    have hd0 : M = [] := by
      cases M with
      | nil => rfl
      | cons y r => obtain ⟨b, off, e, _⟩ := h3 0 y rfl; cases e
    subst hd0
    clear h3 HR
    have q25 := eq_nil_parts w none 0 cap 0 0
    simp only [List.length_nil]
    go_enter Tryz.func53, Tryz.ntmps53
    go_wp2
    go_ret
    exact ⟨_, rfl, OwnP.nil _ _, Below.refl _ _⟩
  | some ad =>
    have hbel := bel w (.cells #[] 89)
    obtain ⟨v', w', hrun, ho, hg, ha, hk⟩ := run_appP (w.alloc (.cells #[] 89)) w.heap.size 25 _ [] (own_made0 w) _ M (HR.out.below hbel) hsl.one (by simpa using hlm) (by simp)
    have HO := hide ho
    have HBB : Hid (Below w.heap.size w w') := (hbel.grown hg (by simp) (fun k hk2 => by simp only [Value.ownBlock, Option.some.injEq] at hk2; omega))
    have q25 := eq_nil_parts w (some ad) M.length cap 0 0
    clear h3 ho hg ha hk
    have HBL := hide hbel
    generalize hLn : M.length = Ln at *
    go_enter Tryz.func53, Tryz.ntmps53
    go_wp2_with (at_builtin; go_must (refine Lib.wpList_append_run _ rfl _ _ _ _ rfl _ _ rfl rfl _ _ hrun ?_))
    go_ret
    exact ⟨_, rfl, HO.out, HBB.out⟩

theorem sg_zero_iff (z : Int) : sg z = 0 ↔ z = 0 := by
  unfold sg
  split
  · constructor <;> intro h <;> omega
  · split
    · simp [*]
    · constructor <;> intro h <;> omega
set_option maxHeartbeats 2000000 in
theorem zero_tells {W : World} {m : Pt} (h : BArg W (.agg #[.bool m.2.1, m.2.2.1]) m.2.2.2) :
    Calls Tryz.prog 121 #[.agg #[.int .i64 m.1, .bool m.2.1, m.2.2.1]] W fun e W' => e = .returned (.bool (decide (m.2.2.2 = 0))) ∧ Below W.heap.size W W' := by
  obtain ⟨vr, neg, mv, z⟩ := m
  dsimp only at h ⊢
  have hs : ∃ a L c, mv = .slice a L c := by
    obtain ⟨neg', mv', n, e, ha, _⟩ := h
    have e2 : mv = mv' := by
      simp only [Value.agg.injEq, Array.mk.injEq, List.cons.injEq, and_true] at e
      exact e.2
    rw [e2]
    exact ha.shape
  obtain ⟨a, L, c, rfl⟩ := hs
  have hb := bel W (.cells #[.int .i64 vr, .bool neg, .slice a L c] 89)
  have hcall := sign_calls (h.below hb)
  have HB := hide hb
  have HS := hide (sg_zero_iff z)
  clear h hb
  generalize sg z = s at *
  go_enter Tryz.func121, Tryz.ntmps121
  go_wp2_with fail
  refine hcall.mono ?_
  rintro e w1 ⟨rfl, hb1⟩
  go_wp2
  go_ret
  refine ⟨?_, bafter HB.out hb1 (Nat.le_refl _)⟩
  have := HS.out
  by_cases hz : z = 0
  · have h0 : s = 0 := this.2 hz
    simp [hz, h0]
  · have h0 : ¬ s = 0 := fun e => hz (this.1 e)
    simp [hz, h0]

set_option maxHeartbeats 2000000 in
theorem wz_calls {n₀ : Nat} {w : World} {v : Value} {M : List Pt} (hown : OwnP n₀ w v M) (hg : GoodA w M) (hlm : M.length ≤ 1048576) (hn : n₀ ≤ w.heap.size) :
    Calls Tryz.prog 92 #[v] w fun e w' => DelE n₀ w M (fun m => decide (m.2.2.2 = 0)) e w' := by
  have hd := del_calls (g := 121) (lb := #[]) (p := fun m => decide (m.2.2.2 = 0)) (I := fun W => GoodA W M)
    ⟨enters_of Tryz.func121 (by kernel_rfl) rfl, fun W W' h hf => h.k32 hf.2, fun W h m hm => zero_tells (h m hm).2⟩ hown hg.sl hlm hg hn
  obtain ⟨ao, cap, rfl, _, _⟩ := hown.len
  clear hown hg
  go_enter Tryz.func92, Tryz.ntmps92
  go_wp2_with fail
  refine hd.mono ?_
  rintro e w1 ⟨v', rfl, ho, hf⟩
  obtain ⟨ao2, cap2, rfl, _, _⟩ := ho.len
  go_wp2
  go_ret
  exact ⟨_, rfl, ho, hf⟩

end Go.Proofs.YtbjolmgobeagoaaGreatDoor
