/- Json: Print, of an array of numbers. -/
import Derived.Test.YtacgocfgcoejpaaDoorJPrint
namespace Go.Proofs.YtacgocfgcoejpaaDoor
set_option linter.unusedVariables false
set_option linter.unusedSimpArgs false
set_option maxRecDepth 100000
open Go Go.RowKit Go.Shelf Go.Lib

set_option maxHeartbeats 1000000 in
theorem print1_ret (w : World) (A B : Addr) :
    CallsD Tryd.prog 19 #[.pointer (some A), .pointer (some B)] .returning w fun n u' w' => n = .returned (.tuple #[]) ∧ u' = .returning ∧ w' = w := by
  refine callsD_of_wpS Tryd.func19 rfl fun c₀ cs hu => ?_
  apply wpS_seq
  apply wpS_region
  simp [wpOpsS, go_sem, recoverD, hu, Tryd.ntmps19, Exit.thenS]
  refine wpS_of_wp ?_
  simp only [Array.replicate_succ, Array.replicate_zero, List.push_toArray, List.append_toArray, List.nil_append, List.cons_append, List.setIfInBounds_toArray, List.set_cons_zero, List.set_cons_succ]
  go_wp2
  show bodyPostS Tryd.prog Tryd.f19 c₀ cs _ _ _ _ _
  cases c₀
  simp at hu
  subst hu
  exact ⟨rfl, _, rfl, .tuple #[], results_none rfl _ _ _, rfl, rfl, rfl⟩

theorem results_p2 {fn : Func} {i j : Tmp} (h : fn.results = #[.cell i 26, .cell j 29]) {tmps : Array Value} {W : World} {A C : Nat} {x y : Value} {t t' : TypeId} (hi : tmps.getD i undef = .pointer (some ⟨A, 0, none⟩)) (hj : tmps.getD j undef = .pointer (some ⟨C, 0, none⟩)) (T : BoxC W A t #[x]) (T' : BoxC W C t' #[y]) :
    (results fn tmps).run Tryd.prog W = .ok (.tuple #[x, y]) W := by
  have c0 : W.cell? ⟨A, 0, none⟩ = some x := T.cell 0
  have c1 : W.cell? ⟨C, 0, none⟩ = some y := T'.cell 0
  have hi' : tmps[i]?.getD undef = .pointer (some ⟨A, 0, none⟩) := by simpa using hi
  have hj' : tmps[j]?.getD undef = .pointer (some ⟨C, 0, none⟩) := by simpa using hj
  simp [results, h, hi', hj', go_sem, c0, c1]

set_option maxHeartbeats 4000000 in
theorem print_calls (n₁ : Nat) (w : World) (X : List (List Nat)) (st : ByteArray) (kv lv : Value) (hk : IsSl kv) (ho : OwnV n₁ w lv (numsV X)) (hS : ∀ S ∈ X, NumT S) (hlen : (joinT X).length ≤ 1000000) (hX : X.length ≤ 1000000) :
    Calls Tryd.prog 8 #[vagg (5, st, kv, lv)] w fun e w' => ∃ tv, e = .returned (.tuple #[tv, .int .i64 0]) ∧ OwnB w.heap.size w' tv ([91] ++ joinT X ++ [93]) ∧ (∀ x ∈ [91] ++ joinT X ++ [93], x < 256) ∧ Below w.heap.size w w' := by
  have hmf : ∀ (fn : Fn) (first cap : Array Value) (w : World), (Instr.makeFunc fn first cap).run Tryd.prog w = .ok (.func fn first cap) w := fun _ _ _ _ => rfl
  obtain ⟨ka, kn, kc, rfl⟩ := hk
  obtain ⟨la, lc, hlv, hlc⟩ := ho.len
  subst hlv
  rw [numsV_len] at ho hlc
  rw [numsV_len]
  unfold vagg
  simp only
  obtain ⟨wa, hwa⟩ : ∃ wa, w.alloc (.cells #[.int .i64 5, .string st, .slice ka kn kc, .slice la X.length lc] 25) = wa := ⟨_, rfl⟩
  obtain ⟨wb, hwb⟩ : ∃ wb, wa.alloc (.cells #[.slice none 0 0] 26) = wb := ⟨_, rfl⟩
  obtain ⟨wc, hwc⟩ : ∃ wc, wb.alloc (.cells #[.int .i64 0] 29) = wc := ⟨_, rfl⟩
  obtain ⟨wd, hwd⟩ : ∃ wd, wc.alloc (.cells #[.slice none 0 0, .int .i64 0] 58) = wd := ⟨_, rfl⟩
  have sa : wa.heap.size = w.heap.size + 1 := by rw [← hwa]; simp
  have sb : wb.heap.size = w.heap.size + 1 + 1 := by rw [← hwb, World.size_alloc, sa]
  have sc : wc.heap.size = w.heap.size + 1 + 1 + 1 := by rw [← hwc, World.size_alloc, sb]
  have ba : Below w.heap.size w wa := by rw [← hwa]; exact bel w _
  have bb : Below wa.heap.size wa wb := by rw [← hwb]; exact bel wa _
  have bc : Below wb.heap.size wb wc := by rw [← hwc]; exact bel wb _
  have bd : Below wc.heap.size wc wd := by rw [← hwd]; exact bel wc _
  have xa : BoxC wa w.heap.size 25 #[.int .i64 5, .string st, .slice ka kn kc, .slice la X.length lc] := by rw [← hwa]; exact BoxC.new w _ _
  have xb : BoxC wb (w.heap.size + 1) 26 #[.slice none 0 0] := by rw [← hwb, ← sa]; exact BoxC.new wa _ _
  have xc : BoxC wc (w.heap.size + 1 + 1) 29 #[.int .i64 0] := by rw [← hwc, ← sb]; exact BoxC.new wb _ _
  have xd : BoxC wd (w.heap.size + 1 + 1 + 1) 58 #[.slice none 0 0, .int .i64 0] := by rw [← hwd, ← sc]; exact BoxC.new wc _ _
  have ya := ((xa.below bb).below bc).below bd
  have yb := (xb.below bc).below bd
  have yc := xc.below bd
  have hB : Below w.heap.size w wd := ((ba.trans (bb.mono (by omega))).trans (bc.mono (by omega))).trans (bd.mono (by omega))
  have sd : wd.heap.size = w.heap.size + 1 + 1 + 1 + 1 := by rw [← hwd, World.size_alloc, sc]
  have hod := ho.keep (fun j e => hB.block j (ho.lt j e).2)
  have hw : WrJ (w.heap.size + 1 + 1 + 1 + 1) wd (w.heap.size + 1 + 1 + 1) [] 0 := ⟨_, xd, World.ownsRow_nil _ _ _ _, fun x hx => (by cases hx), by omega⟩
  have HC := hide (warray_calls _ n₁ wd (w.heap.size + 1 + 1 + 1) 0 [] X st (.slice ka kn kc) (.slice la X.length lc) ⟨_, _, _, rfl⟩ hod hS hw (by omega) (by simpa using hlen) hX)
  unfold vagg at HC
  simp only at HC
  have hww : (((w.alloc (.cells #[.int .i64 5, .string st, .slice ka kn kc, .slice la X.length lc] 25)).alloc (.cells #[.slice none 0 0] 26)).alloc (.cells #[.int .i64 0] 29)).alloc (.cells #[.slice none 0 0, .int .i64 0] 58) = wd := by rw [hwa, hwb, hwc, hwd]
  have v0 : wd.cell? ⟨w.heap.size, 0, none⟩ = some (.int .i64 5) := ya.cell 0
  have v1 : wd.cell? ⟨w.heap.size, 1, none⟩ = some (.string st) := ya.cell 1
  have v2 : wd.cell? ⟨w.heap.size, 2, none⟩ = some (.slice ka kn kc) := ya.cell 2
  have v3 : wd.cell? ⟨w.heap.size, 3, none⟩ = some (.slice la X.length lc) := ya.cell 3
  have lV := ya.lt
  have HWW := hide hww
  have HYB := hide yb
  have HYC := hide yc
  have HBD := hide hB
  clear ho hS hlen hX hlc hwa hwb hwc hwd sa sb sc ba bb bc bd xa xb xc xd ya yb yc hB sd hod hw hww
  go_enter_defers Tryd.func8, Tryd.ntmps8
  go_upto_region 3 with fail
  rw [HWW.out]
  clear HWW
  go_wp2_with fail
  refine HC.out.mono ?_
  rintro e w1 ⟨rfl, ⟨bv, hx, hob, hL, hn⟩, hf⟩
  have hyb := HYB.out.frw hf (by omega) (by decide)
  have hyc := HYC.out.frw hf (by omega) (by decide)
  obtain ⟨va, vn, vc, rfl⟩ := hob.slice
  have c0 : w1.cell? ⟨w.heap.size + 1 + 1 + 1, 0, none⟩ = some (.slice va vn vc) := hx.cell 0
  have b0 : w1.cell? ⟨w.heap.size + 1, 0, none⟩ = some (.slice none 0 0) := hyb.cell 0
  have e0 : w1.cell? ⟨w.heap.size + 1 + 1, 0, none⟩ = some (.int .i64 0) := hyc.cell 0
  have fb := hyb.frozen 0
  have fe := hyc.frozen 0
  have lx := hx.lt
  have lb := hyb.lt
  have le := hyc.lt
  have HB1 : Hid (Below w.heap.size w w1) := HBD.out.trans (hf.below (by omega) (by omega) HBD.out.size)
  have n1 : (Value.slice va vn vc).ownBlock ≠ some (w.heap.size + 1) := fun e => by have := (World.ownsRow.lt hob _ e).1; omega
  have n2 : (Value.slice va vn vc).ownBlock ≠ some (w.heap.size + 1 + 1) := fun e => by have := (World.ownsRow.lt hob _ e).1; omega
  have HOB : Hid (OwnB w.heap.size ((w1.setCell ⟨w.heap.size + 1, 0, none⟩ (.slice va vn vc)).setCell ⟨w.heap.size + 1 + 1, 0, none⟩ (.int .i64 0)) (.slice va vn vc) ([91] ++ joinT X ++ [93])) := by
    have h1 := hob.fr ((Fr.refl (w.heap.size + 1) none w1).set 0 (.slice va vn vc)) n1 (by cases (Value.slice va vn vc).ownBlock <;> simp)
    have h2 := h1.fr ((Fr.refl (w.heap.size + 1 + 1) none _).set 0 (.int .i64 0)) n2 (by cases (Value.slice va vn vc).ownBlock <;> simp)
    rw [List.nil_append] at h2
    have h3 := h2.2
    refine ⟨h2.1, ?_⟩
    rcases h3 with h3 | ⟨g, cap, cur, q1, q2, q3⟩
    · exact .inl h3
    · exact .inr ⟨g, cap, cur, q1, by omega, q3⟩
  have HLL : Hid (∀ x ∈ [91] ++ joinT X ++ [93], x < 256) := by rw [List.nil_append] at hL; exact hL
  have HYB1 : Hid (BoxC ((w1.setCell ⟨w.heap.size + 1, 0, none⟩ (.slice va vn vc)).setCell ⟨w.heap.size + 1 + 1, 0, none⟩ (.int .i64 0)) (w.heap.size + 1) 26 #[.slice va vn vc]) := BoxC.other (show BoxC _ (w.heap.size + 1) 26 #[.slice va vn vc] from hyb.set 0 _) (by omega) 0 _
  have HYC1 : Hid (BoxC ((w1.setCell ⟨w.heap.size + 1, 0, none⟩ (.slice va vn vc)).setCell ⟨w.heap.size + 1 + 1, 0, none⟩ (.int .i64 0)) (w.heap.size + 1 + 1) 29 #[.int .i64 0]) := (hyc.other (by omega) 0 _).set 0 _
  clear hx hob hL hn hf hyb hyc n1 n2 v0 v1 v2 v3 lV
  go_wp2
  refine leaves_cons (f := 19) (args := #[.pointer (some ⟨w.heap.size + 1, 0, none⟩), .pointer (some ⟨w.heap.size + 1 + 1, 0, none⟩)]) (by simp) (by simp [go_sem]) ?_
  refine (print1_ret _ _ _).mono ?_
  rintro e u' w6 ⟨rfl, rfl, hw6⟩
  rw [hw6]
  clear hw6
  show Leaves _ _ _ _ [] .returning _
  exact ⟨_, results_p2 rfl rfl rfl HYB1.out HYC1.out, _, rfl, HOB.out, HLL.out, (HB1.out.setCell (p := ⟨w.heap.size + 1, 0, none⟩) (Nat.le_succ _) _).setCell (p := ⟨w.heap.size + 1 + 1, 0, none⟩) (Nat.le_succ_of_le (Nat.le_succ _)) _⟩

end Go.Proofs.YtacgocfgcoejpaaDoor
