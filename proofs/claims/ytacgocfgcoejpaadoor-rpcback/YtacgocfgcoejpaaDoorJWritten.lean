/- Json: the law's own example. -/
import Derived.Test.YtacgocfgcoejpaaDoorJPrint2
namespace Go.Proofs.YtacgocfgcoejpaaDoor
set_option linter.unusedVariables false
set_option linter.unusedSimpArgs false
set_option maxRecDepth 100000
open Go Go.RowKit Go.Shelf Go.Lib

def ex1 : List Nat := [91, 49, 44, 32, 45, 48, 46, 53, 101, 51, 93]
def ex2 : List Nat := [91, 48, 49, 93]
def ex1X : List (List Nat) := [[49], [45, 48, 46, 53, 101, 51]]
theorem ex1_small : ∀ x ∈ ex1, x < 256 := by decide
theorem ex2_small : ∀ x ∈ ex2, x < 256 := by decide
theorem ex1_pos : ∀ k, k < 11 → posL ex1 k < ex1.length := by decide
theorem ex2_pos : ∀ k, k < 4 → posL ex2 k < ex2.length := by decide
theorem ex1_end : posL ex1 11 = ex1.length := by decide
theorem ex2_end : posL ex2 4 = ex2.length := by decide
theorem ex1_rune : ∀ k, k < 11 → runeAt ex1 (posL ex1 k) ≠ -1 := by decide
theorem ex2_rune : ∀ k, k < 4 → runeAt ex2 (posL ex2 k) ≠ -1 := by decide
theorem ex1_arr : arrF (valG ex1) ex1 5 (blEnd ex1 0 + 1) [] = some (.ok (numsV ex1X) 11) := by kernel_rfl
theorem ex2_arr : arrF (valG ex2) ex2 5 (blEnd ex2 0 + 1) [] = some (.bad 2 6) := by kernel_rfl
theorem ex1_num : ∀ S ∈ ex1X, NumT S := by
  intro S hS
  simp only [ex1X, List.mem_cons, List.not_mem_nil, or_false] at hS
  rcases hS with rfl | rfl
  · exact ⟨by decide, by decide, by decide⟩
  · exact ⟨by decide, by decide, by decide⟩


theorem OwnB.byts {n₀ : Nat} {W : World} {v : Value} {T : List Nat} (hT : ∀ x ∈ T, x < 256) (h : OwnB n₀ W v T) : Byts W v T := by
  obtain ⟨ao, cap, rfl, hb, _⟩ := own_byts hT h
  exact hb

set_option maxHeartbeats 8000000 in
theorem written_calls (w : World) (hU : Utf8Tabs 0 1 w) :
    Calls Tryd.prog 6 #[] w fun e w' => e = .returned (.bool true) ∧ Below w.heap.size w w' := by
  -- the first text
  obtain ⟨wA, hwA⟩ : ∃ wA, w.alloc (.cells #[.int .u8 91, .int .u8 49, .int .u8 44, .int .u8 32, .int .u8 45, .int .u8 48, .int .u8 46, .int .u8 53, .int .u8 101, .int .u8 51, .int .u8 93] 5 (11, 12)) = wA := ⟨_, rfl⟩
  have hc1 : (convert 26 26 (.slice (some ⟨w.heap.size, 0, none⟩) 11 11)).run Tryd.prog (w.alloc (.cells #[.int .u8 91, .int .u8 49, .int .u8 44, .int .u8 32, .int .u8 45, .int .u8 48, .int .u8 46, .int .u8 53, .int .u8 101, .int .u8 51, .int .u8 93] 5)) = .ok (.slice (some ⟨w.heap.size, 0, none⟩) 11 11) wA := by
    rw [← hwA]
    exact run_convert_bytes_const w 26 5 #[.int .u8 91, .int .u8 49, .int .u8 44, .int .u8 32, .int .u8 45, .int .u8 48, .int .u8 46, .int .u8 53, .int .u8 101, .int .u8 51, .int .u8 93] 11 11 Tryd.underlying26 Tryd.underlying5
  have hbA : Byts wA (.slice (some ⟨w.heap.size, 0, none⟩) ex1.length 11) ex1 := by rw [← hwA]; exact byts_lit w ex1 ex1_small (11, 12)
  have bA : Below w.heap.size w wA := by rw [← hwA]; exact bel w _
  have HP1 := hide (parse_calls wA _ 11 ex1 11 5 _ hbA (Utf8Tabs_below hU bA) ex1_pos ex1_end ex1_rune (by decide) (by decide) (by decide) (by decide) ex1_arr (fun M q e => by cases e; exact ⟨by decide, by decide⟩))
  have HBA := hide bA
  have HU := hide hU
  rw [show ex1.length = 11 from rfl] at HP1
  clear hwA hbA bA hU
  go_enter Tryd.func6, Tryd.ntmps6
  go_wp2_with fail
  refine HP1.out.mono ?_
  rintro e w1 ⟨⟨lv, rfl, ho1, _⟩, hB1⟩
  obtain ⟨la, ln, lc, rfl⟩ := ho1.slice
  unfold vagg
  simp only
  have b2 := bel w1 (.cells #[.int .i64 5, .string ⟨#[]⟩, .slice none 0 0, .slice la ln lc] 25)
  have x2 := BoxC.new w1 25 #[.int .i64 5, .string ⟨#[]⟩, .slice none 0 0, .slice la ln lc]
  obtain ⟨w2, hw2⟩ : ∃ w2, w1.alloc (.cells #[.int .i64 5, .string ⟨#[]⟩, .slice none 0 0, .slice la ln lc] 25) = w2 := ⟨_, rfl⟩
  rw [hw2] at b2 x2
  have ho2 := ho1.keep (fun j e => b2.block j (ho1.lt j e).2)
  have HP2 := hide (print_calls _ w2 ex1X ⟨#[]⟩ (.slice none 0 0) (.slice la ln lc) ⟨_, _, _, rfl⟩ ho2 ex1_num (by decide) (by decide))
  unfold vagg at HP2
  simp only at HP2
  have hB2 : Below w.heap.size w w2 := (HBA.out.trans (hB1.mono HBA.out.size)).trans (b2.mono (Nat.le_trans HBA.out.size hB1.size))
  have HB2 := hide hB2
  have HW2 := hide hw2
  have z0 : w2.cell? ⟨w1.heap.size, 0, none⟩ = some (.int .i64 5) := x2.cell 0
  have z1 : w2.cell? ⟨w1.heap.size, 1, none⟩ = some (.string ⟨#[]⟩) := x2.cell 1
  have z2 : w2.cell? ⟨w1.heap.size, 2, none⟩ = some (.slice none 0 0) := x2.cell 2
  have z3 : w2.cell? ⟨w1.heap.size, 3, none⟩ = some (.slice la ln lc) := x2.cell 3
  have lz := x2.lt
  clear ho1 hB1 b2 x2 ho2 hB2 hw2 HP1 hc1
  go_upto_region 2 with fail
  rw [HW2.out]
  clear HW2
  go_wp2_with fail
  refine HP2.out.mono ?_
  rintro e w3 ⟨tv, rfl, hob, hsm, hB3⟩
  have hob' := OwnB.byts hsm hob
  have hB3' : Below w.heap.size w w3 := HB2.out.trans (hB3.mono HB2.out.size)
  have bB0 := bel w3 (.cells #[.int .u8 91, .int .u8 48, .int .u8 49, .int .u8 93] 5)
  obtain ⟨wB, hwB⟩ : ∃ wB, w3.alloc (.cells #[.int .u8 91, .int .u8 48, .int .u8 49, .int .u8 93] 5 (4, 5)) = wB := ⟨_, rfl⟩
  have hc2 : (convert 26 26 (.slice (some ⟨w3.heap.size, 0, none⟩) 4 4)).run Tryd.prog (w3.alloc (.cells #[.int .u8 91, .int .u8 48, .int .u8 49, .int .u8 93] 5)) = .ok (.slice (some ⟨w3.heap.size, 0, none⟩) 4 4) wB := by
    rw [← hwB]
    exact run_convert_bytes_const w3 26 5 #[.int .u8 91, .int .u8 48, .int .u8 49, .int .u8 93] 4 4 Tryd.underlying26 Tryd.underlying5
  have hbB : Byts wB (.slice (some ⟨w3.heap.size, 0, none⟩) ex2.length 4) ex2 := by rw [← hwB]; exact byts_lit w3 ex2 ex2_small (4, 5)
  have bB : Below w3.heap.size w3 wB := by rw [← hwB]; exact bel w3 _
  have hBB : Below w.heap.size w wB := hB3'.trans (bB.mono hB3'.size)
  have HP3 := hide (parse_calls wB _ 4 ex2 4 5 _ hbB (Utf8Tabs_below HU.out hBB) ex2_pos ex2_end ex2_rune (by decide) (by decide) (by decide) (by decide) ex2_arr (fun M q e => by cases e))
  rw [show ex2.length = 4 from rfl] at HP3
  have HOB := hide (hob'.below bB)
  have HBB := hide hBB
  have HSM := hide hsm
  clear hob hob' hsm hB3 hB3' bB0 hwB hbB bB hBB HP2 z0 z1 z2 z3 lz
  go_wp2_with fail
  refine HP3.out.mono ?_
  rintro e w4 ⟨he, hB4⟩
  rw [show e = _ from he]
  have b5 := bel w4 (.cells #[.int .i64 0, .string ⟨#[]⟩, .slice none 0 0, .slice none 0 0] 25)
  have hcv : (convert 26 9 tv).run Tryd.prog (w4.alloc (.cells #[.int .i64 0, .string ⟨#[]⟩, .slice none 0 0, .slice none 0 0] 25)) = .ok (.string (strOf ([91] ++ joinT ex1X ++ [93]))) (w4.alloc (.cells #[.int .i64 0, .string ⟨#[]⟩, .slice none 0 0, .slice none 0 0] 25)) := conv_byts ((HOB.out.below hB4).below b5)
  have hs : ((strOf ([91] ++ joinT ex1X ++ [93])).toList == [91, 49, 44, 45, 48, 46, 53, 101, 51, 93]) = true := by rw [toList_data, strOf_list]; decide
  have HB5 : Hid (Below w.heap.size w (w4.alloc (.cells #[.int .i64 0, .string ⟨#[]⟩, .slice none 0 0, .slice none 0 0] 25))) := (HBB.out.trans (hB4.mono HBB.out.size)).trans (b5.mono (Nat.le_trans HBB.out.size hB4.size))
  generalize strOf ([91] ++ joinT ex1X ++ [93]) = s at *
  clear he hB4 b5 hc2 HP3
  go_wp2
  go_ret
  exact ⟨rfl, HB5.out⟩

end Go.Proofs.YtacgocfgcoejpaaDoor
