/- Json: Of, Text; plain, clone, Equal of numbers. -/
import Derived.Test.YtacgocfgcoejpaaDoorJWritten
namespace Go.Proofs.YtacgocfgcoejpaaDoor
set_option linter.unusedVariables false
set_option linter.unusedSimpArgs false
set_option maxRecDepth 100000
open Go Go.RowKit Go.Shelf Go.Lib

/-- The digits of a small number. -/
def smallS : Nat → ByteArray
  | 0 => ⟨#[48]⟩
  | 1 => ⟨#[49]⟩
  | 2 => ⟨#[50]⟩
  | 3 => ⟨#[51]⟩
  | 4 => ⟨#[52]⟩
  | 5 => ⟨#[53]⟩
  | 6 => ⟨#[54]⟩
  | 7 => ⟨#[55]⟩
  | 8 => ⟨#[56]⟩
  | 9 => ⟨#[57]⟩
  | 10 => ⟨#[49, 48]⟩
  | 11 => ⟨#[49, 49]⟩
  | 12 => ⟨#[49, 50]⟩
  | 13 => ⟨#[49, 51]⟩
  | 14 => ⟨#[49, 52]⟩
  | 15 => ⟨#[49, 53]⟩
  | 16 => ⟨#[49, 54]⟩
  | 17 => ⟨#[49, 55]⟩
  | 18 => ⟨#[49, 56]⟩
  | 19 => ⟨#[49, 57]⟩
  | _ => ⟨#[]⟩
set_option maxHeartbeats 8000000 in
theorem itoa_calls (w : World) : ∀ i : Nat, i < 20 → Calls Tryd.prog 56 #[.int .i64 (i : Int)] w fun e w' => e = .returned (.string (smallS i)) ∧ w' = w
  | 0, _ => by
    go_enter Tryd.func56, Tryd.ntmps56
    go_wp2
    go_ret
    exact ⟨rfl, rfl⟩
  | 1, _ => by
    go_enter Tryd.func56, Tryd.ntmps56
    go_wp2
    go_ret
    exact ⟨rfl, rfl⟩
  | 2, _ => by
    go_enter Tryd.func56, Tryd.ntmps56
    go_wp2
    go_ret
    exact ⟨rfl, rfl⟩
  | 3, _ => by
    go_enter Tryd.func56, Tryd.ntmps56
    go_wp2
    go_ret
    exact ⟨rfl, rfl⟩
  | 4, _ => by
    go_enter Tryd.func56, Tryd.ntmps56
    go_wp2
    go_ret
    exact ⟨rfl, rfl⟩
  | 5, _ => by
    go_enter Tryd.func56, Tryd.ntmps56
    go_wp2
    go_ret
    exact ⟨rfl, rfl⟩
  | 6, _ => by
    go_enter Tryd.func56, Tryd.ntmps56
    go_wp2
    go_ret
    exact ⟨rfl, rfl⟩
  | 7, _ => by
    go_enter Tryd.func56, Tryd.ntmps56
    go_wp2
    go_ret
    exact ⟨rfl, rfl⟩
  | 8, _ => by
    go_enter Tryd.func56, Tryd.ntmps56
    go_wp2
    go_ret
    exact ⟨rfl, rfl⟩
  | 9, _ => by
    go_enter Tryd.func56, Tryd.ntmps56
    go_wp2
    go_ret
    exact ⟨rfl, rfl⟩
  | 10, _ => by
    go_enter Tryd.func56, Tryd.ntmps56
    go_wp2
    go_ret
    exact ⟨rfl, rfl⟩
  | 11, _ => by
    go_enter Tryd.func56, Tryd.ntmps56
    go_wp2
    go_ret
    exact ⟨rfl, rfl⟩
  | 12, _ => by
    go_enter Tryd.func56, Tryd.ntmps56
    go_wp2
    go_ret
    exact ⟨rfl, rfl⟩
  | 13, _ => by
    go_enter Tryd.func56, Tryd.ntmps56
    go_wp2
    go_ret
    exact ⟨rfl, rfl⟩
  | 14, _ => by
    go_enter Tryd.func56, Tryd.ntmps56
    go_wp2
    go_ret
    exact ⟨rfl, rfl⟩
  | 15, _ => by
    go_enter Tryd.func56, Tryd.ntmps56
    go_wp2
    go_ret
    exact ⟨rfl, rfl⟩
  | 16, _ => by
    go_enter Tryd.func56, Tryd.ntmps56
    go_wp2
    go_ret
    exact ⟨rfl, rfl⟩
  | 17, _ => by
    go_enter Tryd.func56, Tryd.ntmps56
    go_wp2
    go_ret
    exact ⟨rfl, rfl⟩
  | 18, _ => by
    go_enter Tryd.func56, Tryd.ntmps56
    go_wp2
    go_ret
    exact ⟨rfl, rfl⟩
  | 19, _ => by
    go_enter Tryd.func56, Tryd.ntmps56
    go_wp2
    go_ret
    exact ⟨rfl, rfl⟩
  | n + 20, h => absurd h (by omega)

set_option maxHeartbeats 2000000 in
theorem of_calls (w : World) (i : Nat) (hi : i < 20) :
    Calls Tryd.prog 32 #[.int .i64 (i : Int)] w fun e w' => e = .returned (vagg (nC (smallS i))) ∧ Below w.heap.size w w' := by
  have HI := hide (fun W => itoa_calls W i hi)
  have hb := bel w (.cells jv0 25)
  have hx := BoxC.new w 25 jv0
  unfold jv0 at hb hx
  generalize hw0 : w.alloc (.cells #[.int .i64 0, .string ⟨#[]⟩, .slice none 0 0, .slice none 0 0] 25) = w0 at *
  have x0 : w0.cell? ⟨w.heap.size, 0, none⟩ = some (.int .i64 0) := hx.cell 0
  have x1 : w0.cell? ⟨w.heap.size, 1, none⟩ = some (.string ⟨#[]⟩) := hx.cell 1
  have x2 : w0.cell? ⟨w.heap.size, 2, none⟩ = some (.slice none 0 0) := hx.cell 2
  have x3 : w0.cell? ⟨w.heap.size, 3, none⟩ = some (.slice none 0 0) := hx.cell 3
  have y0 := hx.frozen 0
  have y1 := hx.frozen 1
  have y2 := hx.frozen 2
  have y3 := hx.frozen 3
  have lX := hx.lt
  have HX := hide hx
  have HB := hide hb
  have HW := hide hw0
  generalize hs : smallS i = s at *
  clear hx hb hw0 hs hi
  go_enter Tryd.func32, Tryd.ntmps32
  go_wp2_with fail
  rw [HW.out]
  clear HW
  refine (HI.out _).mono ?_
  rintro e w1 ⟨rfl, hw⟩
  rw [hw]
  clear hw
  go_wp2
  refine bodyPost_ret (results_jv rfl rfl (resJ_v HX.out (.int .i64 3) (.string s) (.slice none 0 0) (.slice none 0 0))) rfl ?_
  exact ⟨rfl, (((HB.out.setCell (p := ⟨w.heap.size, 0, none⟩) (Nat.le_refl _) _).setCell (p := ⟨w.heap.size, 1, none⟩) (Nat.le_refl _) _).setCell (p := ⟨w.heap.size, 2, none⟩) (Nat.le_refl _) _).setCell (p := ⟨w.heap.size, 3, none⟩) (Nat.le_refl _) _⟩

set_option maxHeartbeats 2000000 in
theorem text_calls (w : World) (s : ByteArray) :
    Calls Tryd.prog 70 #[.string s] w fun e w' => e = .returned (vagg (4, s, .slice none 0 0, .slice none 0 0)) ∧ Below w.heap.size w w' := by
  go_enter Tryd.func70, Tryd.ntmps70
  go_wp2
  refine bodyPost_ret (results_jv rfl rfl (BoxC.new w 25 #[.int .i64 4, .string s, .slice none 0 0, .slice none 0 0])) rfl ?_
  exact ⟨rfl, bel w _⟩

set_option maxHeartbeats 2000000 in
theorem plain_calls (w : World) (s : ByteArray) :
    Calls Tryd.prog 26 #[vagg (nC s)] w fun e w' => e = .returned (vagg (nC s)) ∧ Below w.heap.size w w' := by
  unfold nC vagg
  simp only
  go_enter Tryd.func26, Tryd.ntmps26
  go_wp2
  have hx := BoxC.new (w.alloc (.cells #[.int .i64 3, .string s, .slice none 0 0, .slice none 0 0] 25)) 25 #[.int .i64 3, .string s, .slice none 0 0, .slice none 0 0]
  rw [World.size_alloc] at hx
  refine bodyPost_ret (results_jv rfl rfl hx) rfl ?_
  exact ⟨rfl, (bel w _).alloc (by simp) _⟩

theorem below4 {W w : World} {A n : Nat} (h : Below n w W) (h1 : n ≤ A) (x' y' z' u' : Value) :
    Below n w ((((W.setCell ⟨A, 0, none⟩ x').setCell ⟨A, 1, none⟩ y').setCell ⟨A, 2, none⟩ z').setCell ⟨A, 3, none⟩ u') :=
  (((h.setCell (p := ⟨A, 0, none⟩) h1 x').setCell (p := ⟨A, 1, none⟩) h1 y').setCell (p := ⟨A, 2, none⟩) h1 z').setCell (p := ⟨A, 3, none⟩) h1 u'
set_option maxHeartbeats 2000000 in
theorem seq_nil (w : World) : Calls Tryd.prog 27 #[.slice none 0 0, .slice none 0 0] w fun e w' => e = .returned (.bool true) ∧ w' = w := by
  go_enter Tryd.func27, Tryd.ntmps27
  go_wp2
  go_loopw [13] (fun iv wr => iv = .int .i64 0 ∧ wr = w) (fun _ _ => 0)
  case atStart => exact ⟨rfl, rfl⟩
  case round =>
    obtain ⟨rfl, rfl⟩ := hrel
    go_wp2
    go_ret
    exact ⟨rfl, rfl⟩
set_option maxHeartbeats 2000000 in
theorem efn_nil (w : World) : Calls Tryd.prog 28 #[.slice none 0 0, .slice none 0 0, .func (.func 10) #[] #[]] w fun e w' => e = .returned (.bool true) ∧ w' = w := by
  go_enter Tryd.func28, Tryd.ntmps28
  go_wp2
  go_loopw [17] (fun iv wr => iv = .int .i64 0 ∧ wr = w) (fun _ _ => 0)
  case atStart => exact ⟨rfl, rfl⟩
  case round =>
    obtain ⟨rfl, rfl⟩ := hrel
    go_wp2
    go_ret
    exact ⟨rfl, rfl⟩

set_option maxHeartbeats 8000000 in
theorem equal_num (w : World) (s : ByteArray) :
    Calls Tryd.prog 10 #[vagg (nC s), vagg (nC s)] w fun e w' => e = .returned (.bool true) ∧ Below w.heap.size w w' := by
  have HC := hide (fun W => plain_calls W s)
  unfold nC vagg at *
  simp only at *
  have hb : Below w.heap.size w ((w.alloc (.cells #[.int .i64 3, .string s, .slice none 0 0, .slice none 0 0] 25)).alloc (.cells #[.int .i64 3, .string s, .slice none 0 0, .slice none 0 0] 25)) := (bel w _).alloc (by simp) _
  have hp := (BoxC.new w 25 #[.int .i64 3, .string s, .slice none 0 0, .slice none 0 0]).alloc (.cells #[.int .i64 3, .string s, .slice none 0 0, .slice none 0 0] 25)
  have hq := BoxC.new (w.alloc (.cells #[.int .i64 3, .string s, .slice none 0 0, .slice none 0 0] 25)) 25 #[.int .i64 3, .string s, .slice none 0 0, .slice none 0 0]
  rw [World.size_alloc] at hq
  generalize hw0 : (w.alloc (.cells #[.int .i64 3, .string s, .slice none 0 0, .slice none 0 0] 25)).alloc (.cells #[.int .i64 3, .string s, .slice none 0 0, .slice none 0 0] 25) = w0 at *
  have HW0 := hide hw0
  have HP := hide hp
  have HQ := hide hq
  have HB := hide hb
  have HPD : Hid (BoxC w0.drew w.heap.size 25 #[.int .i64 3, .string s, .slice none 0 0, .slice none 0 0]) := hp
  have HQD : Hid (BoxC w0.drew (w.heap.size + 1) 25 #[.int .i64 3, .string s, .slice none 0 0, .slice none 0 0]) := hq
  have HBD : Hid (Below w.heap.size w w0.drew) := hb.drew
  have HS : Hid (∀ X0 : World, BoxC X0 w.heap.size 25 #[.int .i64 3, .string s, .slice none 0 0, .slice none 0 0] → BoxC X0 (w.heap.size + 1) 25 #[.int .i64 3, .string s, .slice none 0 0, .slice none 0 0] → (X0.cell? ⟨w.heap.size, 0, none⟩ = some (.int .i64 3) ∧ X0.cell? ⟨w.heap.size, 1, none⟩ = some (.string s) ∧ X0.cell? ⟨w.heap.size, 2, none⟩ = some (.slice none 0 0) ∧ X0.cell? ⟨w.heap.size, 3, none⟩ = some (.slice none 0 0) ∧ X0.cell? ⟨w.heap.size + 1, 0, none⟩ = some (.int .i64 3) ∧ X0.cell? ⟨w.heap.size + 1, 1, none⟩ = some (.string s) ∧ X0.cell? ⟨w.heap.size + 1, 2, none⟩ = some (.slice none 0 0) ∧ X0.cell? ⟨w.heap.size + 1, 3, none⟩ = some (.slice none 0 0))) := fun X0 h k => ⟨h.cell 0, h.cell 1, h.cell 2, h.cell 3, k.cell 0, k.cell 1, k.cell 2, k.cell 3⟩
  clear hw0 hp hq hb
  go_enter Tryd.func10, Tryd.ntmps10
  go_upto_region 1 with fail
  rw [HW0.out]
  clear HW0
  refine wp_region_held_drew (S := fun X0 : World => X0.cell? ⟨w.heap.size, 0, none⟩ = some (.int .i64 3) ∧ X0.cell? ⟨w.heap.size, 1, none⟩ = some (.string s) ∧ X0.cell? ⟨w.heap.size, 2, none⟩ = some (.slice none 0 0) ∧ X0.cell? ⟨w.heap.size, 3, none⟩ = some (.slice none 0 0) ∧ X0.cell? ⟨w.heap.size + 1, 0, none⟩ = some (.int .i64 3) ∧ X0.cell? ⟨w.heap.size + 1, 1, none⟩ = some (.string s) ∧ X0.cell? ⟨w.heap.size + 1, 2, none⟩ = some (.slice none 0 0) ∧ X0.cell? ⟨w.heap.size + 1, 3, none⟩ = some (.slice none 0 0)) (by kernel_rfl) (HS.out _ HP.out HQ.out) (fun hHeld => ?_)
  refine takeD (i := 0) (v := ?v1) (some 5) rfl (by kernel_rfl) (by kernel_rfl) (by kernel_rfl) (fun _ _ _ h => h) (Or.inl ⟨by rfl, ?hy1⟩) (HS.out _ HPD.out HQD.out) (by rfl) ?rest1
  case hy1 => first | (intro w hSw; (try dsimp only at hSw); obtain ⟨s0, s1, s2, s3, s4, s5, s6, s7⟩ := hSw; go_simp; done) | (intro w hSw; (try dsimp only at hSw); obtain ⟨s0, s1, s2, s3, s4, s5, s6, s7⟩ := hSw; go_simp; with_reducible rfl)
  try simp only [Act.put, List.setIfInBounds_toArray, List.set_cons_zero, List.set_cons_succ]
  refine takeD (i := 2) (v := ?v2) (some 7) rfl (by kernel_rfl) (by kernel_rfl) (by kernel_rfl) (fun _ _ _ h => h) (Or.inl ⟨by rfl, ?hy2⟩) (HS.out _ HPD.out HQD.out) (by rfl) ?rest2
  case hy2 => first | (intro w hSw; (try dsimp only at hSw); obtain ⟨s0, s1, s2, s3, s4, s5, s6, s7⟩ := hSw; go_simp; done) | (intro w hSw; (try dsimp only at hSw); obtain ⟨s0, s1, s2, s3, s4, s5, s6, s7⟩ := hSw; go_simp; with_reducible rfl)
  try simp only [Act.put, List.setIfInBounds_toArray, List.set_cons_zero, List.set_cons_succ]
  refine wpAnyH_ready (rs := [1]) (by kernel_rfl) (by simp) ?_
  refine AllReadyH.cons rfl (fun K hK => ?_) AllReadyH.nil
  go_simp
  refine (HC.out _).mono ?_
  rintro e w1 ⟨rfl, hB1⟩
  have HP1 := hide (HPD.out.below hB1)
  have HQ1 := hide (HQD.out.below hB1)
  have HB1 := hide (HBD.out.trans (hB1.mono HBD.out.size))
  have hs1 := HS.out _ HP1.out HQ1.out
  refine hK.out _ _ hs1 (fun hHeld => ?_)
  clear hK K hB1 hs1
  try simp only [Act.put, List.setIfInBounds_toArray, List.set_cons_zero, List.set_cons_succ]
  refine wpAnyH_ready (rs := [3]) (by kernel_rfl) (by simp) ?_
  refine AllReadyH.cons rfl (fun K hK => ?_) AllReadyH.nil
  go_simp
  refine (HC.out _).mono ?_
  rintro e w2 ⟨rfl, hB2⟩
  have HP2 := hide (HP1.out.below hB2)
  have HQ2 := hide (HQ1.out.below hB2)
  have HB2 := hide (HB1.out.trans (hB2.mono HB1.out.size))
  have hs2 := HS.out _ HP2.out HQ2.out
  refine hK.out _ _ hs2 (fun hHeld => ?_)
  clear hK K hB2 hs2
  try simp only [Act.put, List.setIfInBounds_toArray, List.set_cons_zero, List.set_cons_succ]
  have pf0 := HP2.out.frozen 0
  have pf1 := HP2.out.frozen 1
  have pf2 := HP2.out.frozen 2
  have pf3 := HP2.out.frozen 3
  have pc0 : w2.cell? ⟨w.heap.size, 0, none⟩ = some (.int .i64 3) := HP2.out.cell 0
  have pc1 : w2.cell? ⟨w.heap.size, 1, none⟩ = some (.string s) := HP2.out.cell 1
  have pc2 : w2.cell? ⟨w.heap.size, 2, none⟩ = some (.slice none 0 0) := HP2.out.cell 2
  have pc3 : w2.cell? ⟨w.heap.size, 3, none⟩ = some (.slice none 0 0) := HP2.out.cell 3
  have pl := HP2.out.lt
  have qf0 := HQ2.out.frozen 0
  have qf1 := HQ2.out.frozen 1
  have qf2 := HQ2.out.frozen 2
  have qf3 := HQ2.out.frozen 3
  have qc0 : w2.cell? ⟨w.heap.size + 1, 0, none⟩ = some (.int .i64 3) := HQ2.out.cell 0
  have qc1 : w2.cell? ⟨w.heap.size + 1, 1, none⟩ = some (.string s) := HQ2.out.cell 1
  have qc2 : w2.cell? ⟨w.heap.size + 1, 2, none⟩ = some (.slice none 0 0) := HQ2.out.cell 2
  have qc3 : w2.cell? ⟨w.heap.size + 1, 3, none⟩ = some (.slice none 0 0) := HQ2.out.cell 3
  have ql := HQ2.out.lt
  refine wpAnyH_ready (rs := [4]) (by kernel_rfl) (by simp) ?_
  refine AllReadyH.cons rfl (fun K hK => ?_) AllReadyH.nil
  go_simp
  have HP3 := hide (resJ_v HP2.out (.int .i64 3) (.string s) (.slice none 0 0) (.slice none 0 0))
  have HQ3 := hide (box_off4 HQ2.out (show w.heap.size + 1 ≠ w.heap.size by omega) (.int .i64 3) (.string s) (.slice none 0 0) (.slice none 0 0))
  have HB3 := hide (below4 HB2.out (Nat.le_refl _) (.int .i64 3) (.string s) (.slice none 0 0) (.slice none 0 0))
  refine hK.out _ _ (HS.out _ HP3.out HQ3.out) (fun hHeld => ?_)
  clear hK K
  try simp only [Act.put, List.setIfInBounds_toArray, List.set_cons_zero, List.set_cons_succ]
  generalize ((((w2.setCell ⟨w.heap.size, 0, none⟩ (.int .i64 3)).setCell ⟨w.heap.size, 1, none⟩ (.string s)).setCell ⟨w.heap.size, 2, none⟩ (.slice none 0 0)).setCell ⟨w.heap.size, 3, none⟩ (.slice none 0 0)) = w3 at *
  clear pf0 pf1 pf2 pf3 pc0 pc1 pc2 pc3 qf0 qf1 qf2 qf3 qc0 qc1 qc2 qc3 pl ql
  have pf0 := HP3.out.frozen 0
  have pf1 := HP3.out.frozen 1
  have pf2 := HP3.out.frozen 2
  have pf3 := HP3.out.frozen 3
  have pc0 : w3.cell? ⟨w.heap.size, 0, none⟩ = some (.int .i64 3) := HP3.out.cell 0
  have pc1 : w3.cell? ⟨w.heap.size, 1, none⟩ = some (.string s) := HP3.out.cell 1
  have pc2 : w3.cell? ⟨w.heap.size, 2, none⟩ = some (.slice none 0 0) := HP3.out.cell 2
  have pc3 : w3.cell? ⟨w.heap.size, 3, none⟩ = some (.slice none 0 0) := HP3.out.cell 3
  have pl := HP3.out.lt
  have qf0 := HQ3.out.frozen 0
  have qf1 := HQ3.out.frozen 1
  have qf2 := HQ3.out.frozen 2
  have qf3 := HQ3.out.frozen 3
  have qc0 : w3.cell? ⟨w.heap.size + 1, 0, none⟩ = some (.int .i64 3) := HQ3.out.cell 0
  have qc1 : w3.cell? ⟨w.heap.size + 1, 1, none⟩ = some (.string s) := HQ3.out.cell 1
  have qc2 : w3.cell? ⟨w.heap.size + 1, 2, none⟩ = some (.slice none 0 0) := HQ3.out.cell 2
  have qc3 : w3.cell? ⟨w.heap.size + 1, 3, none⟩ = some (.slice none 0 0) := HQ3.out.cell 3
  have ql := HQ3.out.lt
  refine wpAnyH_ready (rs := [5]) (by kernel_rfl) (by simp) ?_
  refine AllReadyH.cons rfl (fun K hK => ?_) AllReadyH.nil
  go_simp
  have HQ4 := hide (resJ_v HQ3.out (.int .i64 3) (.string s) (.slice none 0 0) (.slice none 0 0))
  have HP4 := hide (box_off4 HP3.out (show w.heap.size ≠ w.heap.size + 1 by omega) (.int .i64 3) (.string s) (.slice none 0 0) (.slice none 0 0))
  have HB4 := hide (below4 HB3.out (Nat.le_succ _) (.int .i64 3) (.string s) (.slice none 0 0) (.slice none 0 0))
  refine hK.out _ _ (HS.out _ HP4.out HQ4.out) (fun hHeld => ?_)
  clear hK K
  try simp only [Act.put, List.setIfInBounds_toArray, List.set_cons_zero, List.set_cons_succ]
  generalize ((((w3.setCell ⟨w.heap.size + 1, 0, none⟩ (.int .i64 3)).setCell ⟨w.heap.size + 1, 1, none⟩ (.string s)).setCell ⟨w.heap.size + 1, 2, none⟩ (.slice none 0 0)).setCell ⟨w.heap.size + 1, 3, none⟩ (.slice none 0 0)) = w4 at *
  clear pf0 pf1 pf2 pf3 pc0 pc1 pc2 pc3 qf0 qf1 qf2 qf3 qc0 qc1 qc2 qc3 pl ql hHeld
  refine wpAnyH_done (by kernel_rfl) ?_ _
  have pf0 := HP4.out.frozen 0
  have pf1 := HP4.out.frozen 1
  have pf2 := HP4.out.frozen 2
  have pf3 := HP4.out.frozen 3
  have pc0 : w4.cell? ⟨w.heap.size, 0, none⟩ = some (.int .i64 3) := HP4.out.cell 0
  have pc1 : w4.cell? ⟨w.heap.size, 1, none⟩ = some (.string s) := HP4.out.cell 1
  have pc2 : w4.cell? ⟨w.heap.size, 2, none⟩ = some (.slice none 0 0) := HP4.out.cell 2
  have pc3 : w4.cell? ⟨w.heap.size, 3, none⟩ = some (.slice none 0 0) := HP4.out.cell 3
  have pl := HP4.out.lt
  have qf0 := HQ4.out.frozen 0
  have qf1 := HQ4.out.frozen 1
  have qf2 := HQ4.out.frozen 2
  have qf3 := HQ4.out.frozen 3
  have qc0 : w4.cell? ⟨w.heap.size + 1, 0, none⟩ = some (.int .i64 3) := HQ4.out.cell 0
  have qc1 : w4.cell? ⟨w.heap.size + 1, 1, none⟩ = some (.string s) := HQ4.out.cell 1
  have qc2 : w4.cell? ⟨w.heap.size + 1, 2, none⟩ = some (.slice none 0 0) := HQ4.out.cell 2
  have qc3 : w4.cell? ⟨w.heap.size + 1, 3, none⟩ = some (.slice none 0 0) := HQ4.out.cell 3
  have ql := HQ4.out.lt
  have hse : (s.toList == s.toList) = true := by simp
  go_wp2_with fail
  refine (seq_nil w4).mono ?_
  rintro e w5 ⟨rfl, hw⟩
  rw [hw]
  clear hw
  go_wp2_with fail
  refine (efn_nil w4).mono ?_
  rintro e w5 ⟨rfl, hw⟩
  rw [hw]
  clear hw
  go_wp2
  go_ret
  exact ⟨rfl, HB4.out⟩

end Go.Proofs.YtacgocfgcoejpaaDoor
