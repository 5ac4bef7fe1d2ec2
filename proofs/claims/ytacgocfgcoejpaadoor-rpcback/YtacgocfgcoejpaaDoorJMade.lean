/- Json: clone of a number; Made. -/
import Derived.Test.YtacgocfgcoejpaaDoorJOf
namespace Go.Proofs.YtacgocfgcoejpaaDoor
set_option linter.unusedVariables false
set_option linter.unusedSimpArgs false
set_option maxRecDepth 100000
open Go Go.RowKit Go.Shelf Go.Lib

set_option maxHeartbeats 1000000 in
theorem cloneS_nil (w : World) : Calls Tryd.prog 73 #[.slice none 0 0] w fun e w' => e = .returned (.slice none 0 0) ∧ w' = w := by
  have heq : (binOp .eql 22 (.slice none 0 0) (.slice none 0 0)).run Tryd.prog w = .ok (.bool true) w := by kernel_rfl
  go_enter Tryd.func73, Tryd.ntmps73
  go_wp2
  go_ret
  exact ⟨rfl, rfl⟩
set_option maxHeartbeats 1000000 in
theorem cloneV_nil (w : World) : Calls Tryd.prog 74 #[.slice none 0 0] w fun e w' => e = .returned (.slice none 0 0) ∧ w' = w := by
  have heq : (binOp .eql 23 (.slice none 0 0) (.slice none 0 0)).run Tryd.prog w = .ok (.bool true) w := by kernel_rfl
  go_enter Tryd.func74, Tryd.ntmps74
  go_wp2
  go_ret
  exact ⟨rfl, rfl⟩

set_option maxHeartbeats 4000000 in
theorem clone_num (w : World) (s : ByteArray) :
    Calls Tryd.prog 55 #[vagg (nC s)] w fun e w' => e = .returned (vagg (nC s)) ∧ Below w.heap.size w w' := by
  have HC := hide (fun W => plain_calls W s)
  unfold nC vagg at *
  simp only at *
  have hb : Below w.heap.size w ((w.alloc (.cells #[.int .i64 3, .string s, .slice none 0 0, .slice none 0 0] 25)).alloc (.cells #[.int .i64 0, .string ⟨#[]⟩, .slice none 0 0, .slice none 0 0] 25)) := (bel w _).alloc (by simp) _
  have hp := (BoxC.new w 25 #[.int .i64 3, .string s, .slice none 0 0, .slice none 0 0]).alloc (.cells #[.int .i64 0, .string ⟨#[]⟩, .slice none 0 0, .slice none 0 0] 25)
  have hq := BoxC.new (w.alloc (.cells #[.int .i64 3, .string s, .slice none 0 0, .slice none 0 0] 25)) 25 #[.int .i64 0, .string ⟨#[]⟩, .slice none 0 0, .slice none 0 0]
  rw [World.size_alloc] at hq
  generalize hw0 : (w.alloc (.cells #[.int .i64 3, .string s, .slice none 0 0, .slice none 0 0] 25)).alloc (.cells #[.int .i64 0, .string ⟨#[]⟩, .slice none 0 0, .slice none 0 0] 25) = w0 at *
  have p0 : w0.cell? ⟨w.heap.size, 0, none⟩ = some (.int .i64 3) := hp.cell 0
  have p1 : w0.cell? ⟨w.heap.size, 1, none⟩ = some (.string s) := hp.cell 1
  have p2 : w0.cell? ⟨w.heap.size, 2, none⟩ = some (.slice none 0 0) := hp.cell 2
  have p3 : w0.cell? ⟨w.heap.size, 3, none⟩ = some (.slice none 0 0) := hp.cell 3
  have lp := hp.lt
  have HW0 := hide hw0
  have HP := hide hp
  have HQ := hide hq
  have HB := hide hb
  clear hw0 hp hq hb
  go_enter Tryd.func55, Tryd.ntmps55
  go_upto_region 1 with fail
  rw [HW0.out]
  clear HW0
  go_wp2_with fail
  refine (HC.out _).mono ?_
  rintro e w1 ⟨rfl, hB1⟩
  have HP1 := hide (resJ_v (HP.out.below hB1) (.int .i64 3) (.string s) (.slice none 0 0) (.slice none 0 0))
  have HQ1 := hide (box_off4 (HQ.out.below hB1) (show w.heap.size + 1 ≠ w.heap.size by omega) (.int .i64 3) (.string s) (.slice none 0 0) (.slice none 0 0))
  have HB1 := hide (below4 (HB.out.trans (hB1.mono HB.out.size)) (Nat.le_refl _) (.int .i64 3) (.string s) (.slice none 0 0) (.slice none 0 0))
  have hp1 := HP.out.below hB1
  have f0 := hp1.frozen 0
  have f1 := hp1.frozen 1
  have f2 := hp1.frozen 2
  have f3 := hp1.frozen 3
  have c0 : w1.cell? ⟨w.heap.size, 0, none⟩ = some (.int .i64 3) := hp1.cell 0
  have c1 : w1.cell? ⟨w.heap.size, 1, none⟩ = some (.string s) := hp1.cell 1
  have c2 : w1.cell? ⟨w.heap.size, 2, none⟩ = some (.slice none 0 0) := hp1.cell 2
  have c3 : w1.cell? ⟨w.heap.size, 3, none⟩ = some (.slice none 0 0) := hp1.cell 3
  have lp1 := hp1.lt
  clear hB1 hp1 p0 p1 p2 p3 lp
  go_upto_region 2 with fail
  generalize (((w1.setCell ⟨w.heap.size, 0, none⟩ (.int .i64 3)).setCell ⟨w.heap.size, 1, none⟩ (.string s)).setCell ⟨w.heap.size, 2, none⟩ (.slice none 0 0)).setCell ⟨w.heap.size, 3, none⟩ (.slice none 0 0) = w2 at *
  clear c0 c1 c2 c3 f0 f1 f2 f3 lp1
  have q2 : w2.cell? ⟨w.heap.size, 2, none⟩ = some (.slice none 0 0) := HP1.out.cell 2
  have g2 := HP1.out.frozen 2
  have l2 := HP1.out.lt
  go_wp2_with fail
  refine (cloneS_nil w2).mono ?_
  rintro e w3 ⟨rfl, hw⟩
  rw [hw]
  clear hw
  have HP2 : Hid (BoxC (w2.setCell ⟨w.heap.size, 2, none⟩ (.slice none 0 0)) w.heap.size 25 #[.int .i64 3, .string s, .slice none 0 0, .slice none 0 0]) := HP1.out.set 2 _
  have HQ2 := hide (HQ1.out.other (show w.heap.size + 1 ≠ w.heap.size by omega) 2 (.slice none 0 0))
  have HB2 := hide (HB1.out.setCell (p := ⟨w.heap.size, 2, none⟩) (Nat.le_refl _) (.slice none 0 0))
  go_upto_region 3 with fail
  generalize w2.setCell ⟨w.heap.size, 2, none⟩ (.slice none 0 0) = w4 at *
  clear q2 g2 l2
  have q3 : w4.cell? ⟨w.heap.size, 3, none⟩ = some (.slice none 0 0) := HP2.out.cell 3
  have g3 := HP2.out.frozen 3
  have l3 := HP2.out.lt
  go_wp2_with fail
  refine (cloneV_nil w4).mono ?_
  rintro e w5 ⟨rfl, hw⟩
  rw [hw]
  clear hw
  have HP3 : Hid (BoxC (w4.setCell ⟨w.heap.size, 3, none⟩ (.slice none 0 0)) w.heap.size 25 #[.int .i64 3, .string s, .slice none 0 0, .slice none 0 0]) := HP2.out.set 3 _
  have HQ3 := hide (HQ2.out.other (show w.heap.size + 1 ≠ w.heap.size by omega) 3 (.slice none 0 0))
  have HB3 := hide (HB2.out.setCell (p := ⟨w.heap.size, 3, none⟩) (Nat.le_refl _) (.slice none 0 0))
  go_upto_region 4 with fail
  generalize w4.setCell ⟨w.heap.size, 3, none⟩ (.slice none 0 0) = w6 at *
  clear q3 g3 l3
  have r0 : w6.cell? ⟨w.heap.size, 0, none⟩ = some (.int .i64 3) := HP3.out.cell 0
  have r1 : w6.cell? ⟨w.heap.size, 1, none⟩ = some (.string s) := HP3.out.cell 1
  have r2 : w6.cell? ⟨w.heap.size, 2, none⟩ = some (.slice none 0 0) := HP3.out.cell 2
  have r3 : w6.cell? ⟨w.heap.size, 3, none⟩ = some (.slice none 0 0) := HP3.out.cell 3
  have t0 : w6.cell? ⟨w.heap.size + 1, 0, none⟩ = some (.int .i64 0) := HQ3.out.cell 0
  have t1 : w6.cell? ⟨w.heap.size + 1, 1, none⟩ = some (.string ⟨#[]⟩) := HQ3.out.cell 1
  have t2 : w6.cell? ⟨w.heap.size + 1, 2, none⟩ = some (.slice none 0 0) := HQ3.out.cell 2
  have t3 : w6.cell? ⟨w.heap.size + 1, 3, none⟩ = some (.slice none 0 0) := HQ3.out.cell 3
  have u0 := HQ3.out.frozen 0
  have u1 := HQ3.out.frozen 1
  have u2 := HQ3.out.frozen 2
  have u3 := HQ3.out.frozen 3
  have lr := HP3.out.lt
  have lt := HQ3.out.lt
  go_wp2
  go_loopw [18] (fun iv wr => iv = .int .i64 0 ∧ wr = w6) (fun _ _ => 0)
  case atStart => exact ⟨rfl, rfl⟩
  case round =>
    obtain ⟨rfl, rfl⟩ := hrel
    go_wp2
    refine bodyPost_ret (results_jv rfl rfl (resJ_v HQ3.out (.int .i64 3) (.string s) (.slice none 0 0) (.slice none 0 0))) rfl ?_
    exact ⟨rfl, below4 HB3.out (Nat.le_succ _) _ _ _ _⟩

end Go.Proofs.YtacgocfgcoejpaaDoor
