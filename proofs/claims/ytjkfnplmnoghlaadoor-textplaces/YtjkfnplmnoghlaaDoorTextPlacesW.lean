/- The law TextPlaces, walked. -/
import Derived.Test.YtjkfnplmnoghlaaDoorTPlace
import Derived.Test.YtjkfnplmnoghlaaDoorTOpened
namespace Go.Proofs.YtjkfnplmnoghlaaDoor
set_option linter.unusedVariables false
set_option linter.unusedSimpArgs false
set_option maxRecDepth 100000
open Go Go.RowKit Go.Shelf Go.Lib

theorem undrew {n : Nat} {w W : World} (h : Below n w.drew W) : Below n w W := ⟨h.os, h.tape, h.output, h.size, h.block⟩

set_option maxHeartbeats 16000000 in
theorem textPlaces_walk (w : World) (T : List Nat) (hT : ∀ y ∈ T, y < 256) (p u : Int) (hu : u ≤ 9223372036854775807) (at' : Int) (hat : (Lit.int .i64 at').wf = true) (hK : Know w) :
    Calls Tryd.prog 5 #[.string (strOf T), .agg #[.int .i64 p, .int .i64 u], .int .i64 at'] w fun e w' => e = .returned (.bool true) ∧ Below w.heap.size w w' := by
  obtain ⟨sT, hsT⟩ : ∃ sT, strOf T = sT := ⟨_, rfl⟩
  have hszT : sT.size = T.length := by rw [← hsT]; exact strOf_size T
  have HK := hide hK
  have HT := hide hT
  have HST := hide hsT
  rw [hsT]
  clear hK hT hat hsT
  have X0 := hide (BoxC.new w 49 #[.int .i64 p, .int .i64 u])
  have HB0 := hide (bel w (.cells #[.int .i64 p, .int .i64 u] 49))
  obtain ⟨W0, hW0⟩ : ∃ W0, w.alloc (.cells #[.int .i64 p, .int .i64 u] 49) = W0 := ⟨_, rfl⟩
  rw [hW0] at X0 HB0
  have HW0 := hide hW0
  clear hW0
  by_cases hlong : T.length ≤ 500
  rotate_left
  · have d1 : (T.length : Int) > 500 := by omega
    go_enter Tryd.func5, Tryd.ntmps5
    go_wp2_with fail
    rw [HW0.out]
    refine (opened_calls _ (HK.out.below HB0.out)).mono ?_
    rintro e w1 ⟨rfl, hb1⟩
    have HB1 := hide (show Below w.heap.size w w1 from bafter HB0.out hb1 (Nat.le_refl _))
    clear hb1
    go_wp2
    go_ret
    exact ⟨rfl, HB1.out⟩
  have d1 : ¬ (T.length : Int) > 500 := by omega
  have T1 := hide hlong
  clear hlong
  have hop := open_any W0 1 T (HK.out.below HB0.out) HT.out (by have := T1.out; omega)
  rw [HST.out] at hop
  have HOP := hide hop
  clear hop
  go_enter Tryd.func5, Tryd.ntmps5
  go_wp2_with fail
  rw [HW0.out]
  clear HW0
  refine HOP.out.mono ?_
  clear HOP
  rintro e w2 ⟨r, htk, hb2, hcase⟩
  have HB2 := hide (show Below w.heap.size w w2 from bafter HB0.out hb2 (Nat.le_refl _))
  have X2 := hide (X0.out.below hb2)
  rcases hcase with ⟨hr, rfl⟩ | ⟨rfl, D, rfl, hD, hdoc⟩
  · clear htk hb2
    go_wp2_with fail
    refine (opened_calls _ (HK.out.below HB2.out)).mono ?_
    rintro e w3 ⟨rfl, hb3⟩
    have HB3 := hide (show Below w.heap.size w w3 from bafter HB2.out hb3 (Nat.le_refl _))
    clear hb3
    go_wp2
    go_ret
    exact ⟨rfl, HB3.out⟩
  have hval : ValidL T := by
    rcases htk with ⟨_, e⟩ | ⟨_, ⟨h, _⟩ | ⟨_, e⟩⟩
    · exact absurd e (by decide)
    · exact h
    · exact absurd e (by decide)
  obtain ⟨N, n1, n2, n3⟩ := hval
  have HSAME : Hid (∀ ln un ln' un' : Int, PlaceR T (linesL T) at' ln un → RPlaceR T (linesL T) at' ln' un' → ln = ln' ∧ un = un') := fun _ _ _ _ h h' => place_same HT.out n1 n2 n3 h h'
  have HDOC := hide hdoc
  clear htk hb2 hD hdoc n1 n2 n3
  obtain ⟨cx3, w3, hcv3, hby3, hb3, _⟩ := conv_str w2 T HT.out
  rw [HST.out] at hcv3
  have HBY3 := hide hby3
  have HS3 := hide hb3
  clear hby3 hb3
  go_wp2_with fail
  refine (rlines_calls w3 _ cx3 T HBY3.out.1 (by have := T1.out; omega)).mono ?_
  rintro e w6 ⟨rv, rfl, hown, hb6⟩
  have HL6 := hide hown.ints
  have hbb : Below w2.heap.size w2 w6 := bafter HS3.out hb6 (Nat.le_refl _)
  have HB6 := hide (show Below w.heap.size w w6 from bafter HB2.out hbb (Nat.le_refl _))
  have BX6 := hide (X2.out.below hbb)
  have HDOC6 := hide (HDOC.out.below hbb)
  have HK6 := hide (HK.out.below HB6.out)
  have HK6d := hide (HK6.out.below ((Below.refl _ w6).drew))
  have HLL := hide (show 1 ≤ (linesL T).length ∧ (linesL T).length ≤ 1000001 from ⟨linesTo_some T _, Nat.le_trans (linesTo_length T T.length) (by have := T1.out; omega)⟩)
  have HSS : Hid (∀ Y : World, BoxC Y w.heap.size 49 #[.int .i64 p, .int .i64 u] → (fun X' : World => X'.cell? ⟨w.heap.size, 0, none⟩ = some (.int .i64 p) ∧ X'.cell? ⟨w.heap.size, 1, none⟩ = some (.int .i64 u)) Y) := fun Y k1 => ⟨k1.cell 0, k1.cell 1⟩
  clear hown hb6 hbb hcv3 HBY3 HS3 HDOC X0 HB0 X2
  go_upto_region 7 with fail
  refine wp_region_held_drew (S := fun X' : World => X'.cell? ⟨w.heap.size, 0, none⟩ = some (.int .i64 p) ∧ X'.cell? ⟨w.heap.size, 1, none⟩ = some (.int .i64 u)) (by kernel_rfl) (HSS.out _ BX6.out) (fun hHeld => ?_)
  refine wpAnyH_ready (rs := [0]) (by kernel_rfl) (by simp) ?_
  refine AllReadyH.cons rfl (fun K hK => ?_) AllReadyH.nil
  go_simp
  refine (opened_calls _ HK6d.out).mono ?_
  rintro e w7 ⟨rfl, hs7⟩
  have hB7 : Below w6.heap.size w6 w7 := undrew hs7
  have hq7 := HSS.out w7 (BX6.out.below hB7)
  go_wp2_with fail
  refine hK.out _ _ hq7 (fun _ => ?_)
  clear hK K
  try simp only [Act.put, List.setIfInBounds_toArray, List.set_cons_zero, List.set_cons_succ]
  refine takeD (i := 1) (v := ?v1) (some 26) rfl (by kernel_rfl) (by kernel_rfl) (by kernel_rfl) (fun _ _ _ h => h) (Or.inl ⟨by rfl, ?hy1⟩) (by assumption) (by rfl) ?rest1
  case hy1 => first | (intro w hSw; (try dsimp only at hSw); obtain ⟨q0, q1⟩ := hSw; go_simp; done) | (intro w hSw; (try dsimp only at hSw); obtain ⟨q0, q1⟩ := hSw; go_simp; with_reducible rfl)
  try simp only [Act.put, List.setIfInBounds_toArray, List.set_cons_zero, List.set_cons_succ]
  refine takeD (i := 2) (v := ?v2) (some 27) rfl (by kernel_rfl) (by kernel_rfl) (by kernel_rfl) (fun _ _ _ h => h) (Or.inl ⟨by rfl, ?hy2⟩) (by assumption) (by rfl) ?rest2
  case hy2 => first | (intro w hSw; (try dsimp only at hSw); obtain ⟨q0, q1⟩ := hSw; go_simp; done) | (intro w hSw; (try dsimp only at hSw); obtain ⟨q0, q1⟩ := hSw; go_simp; with_reducible rfl)
  try simp only [Act.put, List.setIfInBounds_toArray, List.set_cons_zero, List.set_cons_succ]
  refine takeD (i := 3) (v := ?v3) (some 28) rfl (by kernel_rfl) (by kernel_rfl) (by kernel_rfl) (fun _ _ _ h => h) (Or.inl ⟨by rfl, ?hy3⟩) (by assumption) (by rfl) ?rest3
  case hy3 => first | (intro w hSw; (try dsimp only at hSw); obtain ⟨q0, q1⟩ := hSw; go_simp; done) | (intro w hSw; (try dsimp only at hSw); obtain ⟨q0, q1⟩ := hSw; go_simp; with_reducible rfl)
  try simp only [Act.put, List.setIfInBounds_toArray, List.set_cons_zero, List.set_cons_succ]
  refine takeD (i := 5) (v := ?v4) (some 30) rfl (by kernel_rfl) (by kernel_rfl) (by kernel_rfl) (fun _ _ _ h => h) (Or.inl ⟨by rfl, ?hy4⟩) (by assumption) (by rfl) ?rest4
  case hy4 => first | (intro w hSw; (try dsimp only at hSw); obtain ⟨q0, q1⟩ := hSw; go_simp; done) | (intro w hSw; (try dsimp only at hSw); obtain ⟨q0, q1⟩ := hSw; go_simp; with_reducible rfl)
  try simp only [Act.put, List.setIfInBounds_toArray, List.set_cons_zero, List.set_cons_succ]
  refine takeD (i := 7) (v := ?v5) (some 32) rfl (by kernel_rfl) (by kernel_rfl) (by kernel_rfl) (fun _ _ _ h => h) (Or.inl ⟨by rfl, ?hy5⟩) (by assumption) (by rfl) ?rest5
  case hy5 => first | (intro w hSw; (try dsimp only at hSw); obtain ⟨q0, q1⟩ := hSw; go_simp; done) | (intro w hSw; (try dsimp only at hSw); obtain ⟨q0, q1⟩ := hSw; go_simp; with_reducible rfl)
  try simp only [Act.put, List.setIfInBounds_toArray, List.set_cons_zero, List.set_cons_succ]
  refine takeD (i := 8) (v := ?v6) (some 33) rfl (by kernel_rfl) (by kernel_rfl) (by kernel_rfl) (fun _ _ _ h => h) (Or.inl ⟨by rfl, ?hy6⟩) (by assumption) (by rfl) ?rest6
  case hy6 => first | (intro w hSw; (try dsimp only at hSw); obtain ⟨q0, q1⟩ := hSw; go_simp; done) | (intro w hSw; (try dsimp only at hSw); obtain ⟨q0, q1⟩ := hSw; go_simp; with_reducible rfl)
  try simp only [Act.put, List.setIfInBounds_toArray, List.set_cons_zero, List.set_cons_succ]
  refine wpAnyH_ready (rs := [4, 6]) (by kernel_rfl) (by simp) ?_
  refine AllReadyH.cons rfl (fun K hK => ?_) (AllReadyH.cons rfl (fun K hK => ?_) AllReadyH.nil)
  · go_simp
    refine (doffset_calls _ D 1 T [] p u (HDOC6.out.below hB7) (HK6.out.below hB7) (by have := T1.out; omega)).mono ?_
    rintro e w7 ⟨r7, rfl, ho7, hs7⟩
    have hB7 : Below w6.heap.size w6 w7 := bafter hB7 hs7 (Nat.le_refl _)
    have hq7 := HSS.out w7 (BX6.out.below hB7)
    go_wp2_with fail
    refine hK.out _ _ hq7 (fun _ => ?_)
    clear hK K
    try simp only [Act.put, List.setIfInBounds_toArray, List.set_cons_zero, List.set_cons_succ]
    refine wpAnyH_ready (rs := [6]) (by kernel_rfl) (by simp) ?_
    refine AllReadyH.cons rfl (fun K hK => ?_) AllReadyH.nil
    obtain ⟨cx8, w8, hcv8, hby8, hs8, _⟩ := conv_str w7 T HT.out
    rw [HST.out] at hcv8
    go_simp
    have hB8 : Below w6.heap.size w6 w8 := bafter hB7 hs8 (Nat.le_refl _)
    have hq8 := HSS.out w8 (BX6.out.below hB8)
    refine hK.out _ _ hq8 (fun _ => ?_)
    clear hK K
    try simp only [Act.put, List.setIfInBounds_toArray, List.set_cons_zero, List.set_cons_succ]
    clear hcv8
    refine wpAnyH_ready (rs := [9]) (by kernel_rfl) (by simp) ?_
    refine AllReadyH.cons rfl (fun K hK => ?_) AllReadyH.nil
    go_simp
    refine (roffset_calls _ _ cx8 T rv (linesL T) p u hby8 (HL6.out.below hB8) (by have := T1.out; omega) hu).mono ?_
    rintro e w9 ⟨s9, rfl, hr9, hs9⟩
    obtain rfl := off_one ho7 hr9
    have hB9 : Below w6.heap.size w6 w9 := bafter hB8 hs9 (Nat.le_refl _)
    have hq9 := HSS.out w9 (BX6.out.below hB9)
    go_wp2_with fail
    refine hK.out _ _ hq9 (fun _ => ?_)
    clear hK K
    try simp only [Act.put, List.setIfInBounds_toArray, List.set_cons_zero, List.set_cons_succ]
    refine takeD (i := 10) (v := .bool true) (some 35) rfl (by kernel_rfl) (by kernel_rfl) (by kernel_rfl) (fun _ _ _ h => h) (Or.inl ⟨by rfl, ?hy10⟩) (by assumption) (by rfl) ?rest10
    case hy10 => first | (intro w hSw; (try dsimp only at hSw); obtain ⟨q0, q1⟩ := hSw; go_simp; done) | (intro w hSw; (try dsimp only at hSw); obtain ⟨q0, q1⟩ := hSw; go_simp; with_reducible rfl)
    try simp only [Act.put, List.setIfInBounds_toArray, List.set_cons_zero, List.set_cons_succ]
    refine takeD (i := 11) (v := ?v11) (some 36) rfl (by kernel_rfl) (by kernel_rfl) (by kernel_rfl) (fun _ _ _ h => h) (Or.inl ⟨by rfl, ?hy11⟩) (by assumption) (by rfl) ?rest11
    case hy11 => first | (intro w hSw; (try dsimp only at hSw); obtain ⟨q0, q1⟩ := hSw; go_simp; done) | (intro w hSw; (try dsimp only at hSw); obtain ⟨q0, q1⟩ := hSw; go_simp; with_reducible rfl)
    try simp only [Act.put, List.setIfInBounds_toArray, List.set_cons_zero, List.set_cons_succ]
    refine takeD (i := 12) (v := ?v12) (some 37) rfl (by kernel_rfl) (by kernel_rfl) (by kernel_rfl) (fun _ _ _ h => h) (Or.inl ⟨by rfl, ?hy12⟩) (by assumption) (by rfl) ?rest12
    case hy12 => first | (intro w hSw; (try dsimp only at hSw); obtain ⟨q0, q1⟩ := hSw; go_simp; done) | (intro w hSw; (try dsimp only at hSw); obtain ⟨q0, q1⟩ := hSw; go_simp; with_reducible rfl)
    try simp only [Act.put, List.setIfInBounds_toArray, List.set_cons_zero, List.set_cons_succ]
    refine takeD (i := 13) (v := ?v13) (some 38) rfl (by kernel_rfl) (by kernel_rfl) (by kernel_rfl) (fun _ _ _ h => h) (Or.inl ⟨by rfl, ?hy13⟩) (by assumption) (by rfl) ?rest13
    case hy13 => first | (intro w hSw; (try dsimp only at hSw); obtain ⟨q0, q1⟩ := hSw; go_simp; done) | (intro w hSw; (try dsimp only at hSw); obtain ⟨q0, q1⟩ := hSw; go_simp; with_reducible rfl)
    try simp only [Act.put, List.setIfInBounds_toArray, List.set_cons_zero, List.set_cons_succ]
    refine takeD (i := 14) (v := ?v14) (some 39) rfl (by kernel_rfl) (by kernel_rfl) (by kernel_rfl) (fun _ _ _ h => h) (Or.inl ⟨by rfl, ?hy14⟩) (by assumption) (by rfl) ?rest14
    case hy14 => first | (intro w hSw; (try dsimp only at hSw); obtain ⟨q0, q1⟩ := hSw; go_simp; done) | (intro w hSw; (try dsimp only at hSw); obtain ⟨q0, q1⟩ := hSw; go_simp; with_reducible rfl)
    try simp only [Act.put, List.setIfInBounds_toArray, List.set_cons_zero, List.set_cons_succ]
    refine takeD (i := 16) (v := ?v15) (some 41) rfl (by kernel_rfl) (by kernel_rfl) (by kernel_rfl) (fun _ _ _ h => h) (Or.inl ⟨by rfl, ?hy15⟩) (by assumption) (by rfl) ?rest15
    case hy15 => first | (intro w hSw; (try dsimp only at hSw); obtain ⟨q0, q1⟩ := hSw; go_simp; done) | (intro w hSw; (try dsimp only at hSw); obtain ⟨q0, q1⟩ := hSw; go_simp; with_reducible rfl)
    try simp only [Act.put, List.setIfInBounds_toArray, List.set_cons_zero, List.set_cons_succ]
    refine takeD (i := 18) (v := ?v16) (some 43) rfl (by kernel_rfl) (by kernel_rfl) (by kernel_rfl) (fun _ _ _ h => h) (Or.inl ⟨by rfl, ?hy16⟩) (by assumption) (by rfl) ?rest16
    case hy16 => first | (intro w hSw; (try dsimp only at hSw); obtain ⟨q0, q1⟩ := hSw; go_simp; done) | (intro w hSw; (try dsimp only at hSw); obtain ⟨q0, q1⟩ := hSw; go_simp; with_reducible rfl)
    try simp only [Act.put, List.setIfInBounds_toArray, List.set_cons_zero, List.set_cons_succ]
    refine takeD (i := 19) (v := ?v17) (some 44) rfl (by kernel_rfl) (by kernel_rfl) (by kernel_rfl) (fun _ _ _ h => h) (Or.inl ⟨by rfl, ?hy17⟩) (by assumption) (by rfl) ?rest17
    case hy17 => first | (intro w hSw; (try dsimp only at hSw); obtain ⟨q0, q1⟩ := hSw; go_simp; done) | (intro w hSw; (try dsimp only at hSw); obtain ⟨q0, q1⟩ := hSw; go_simp; with_reducible rfl)
    try simp only [Act.put, List.setIfInBounds_toArray, List.set_cons_zero, List.set_cons_succ]
    refine wpAnyH_ready (rs := [15, 17]) (by kernel_rfl) (by simp) ?_
    refine AllReadyH.cons rfl (fun K hK => ?_) (AllReadyH.cons rfl (fun K hK => ?_) AllReadyH.nil)
    · go_simp
      refine (dplace_calls _ D 1 T [] at' (HDOC6.out.below hB9) (HK6.out.below hB9) (by have := T1.out; omega)).mono ?_
      rintro e w18 ⟨p18, u18, rfl, ho18, hs18⟩
      have hB18 : Below w6.heap.size w6 w18 := bafter hB9 hs18 (Nat.le_refl _)
      have hq18 := HSS.out w18 (BX6.out.below hB18)
      go_wp2_with fail
      refine hK.out _ _ hq18 (fun _ => ?_)
      clear hK K
      try simp only [Act.put, List.setIfInBounds_toArray, List.set_cons_zero, List.set_cons_succ]
      refine wpAnyH_ready (rs := [17]) (by kernel_rfl) (by simp) ?_
      refine AllReadyH.cons rfl (fun K hK => ?_) AllReadyH.nil
      obtain ⟨cx19, w19, hcv19, hby19, hs19, _⟩ := conv_str w18 T HT.out
      rw [HST.out] at hcv19
      go_simp
      have hB19 : Below w6.heap.size w6 w19 := bafter hB18 hs19 (Nat.le_refl _)
      have hq19 := HSS.out w19 (BX6.out.below hB19)
      refine hK.out _ _ hq19 (fun _ => ?_)
      clear hK K
      try simp only [Act.put, List.setIfInBounds_toArray, List.set_cons_zero, List.set_cons_succ]
      clear hcv19
      refine wpAnyH_ready (rs := [20]) (by kernel_rfl) (by simp) ?_
      refine AllReadyH.cons rfl (fun K hK => ?_) AllReadyH.nil
      go_simp
      refine (rplace_calls _ _ cx19 T rv (linesL T) at' hby19 (HL6.out.below hB19) (by have := T1.out; omega) HLL.out.1 HLL.out.2).mono ?_
      rintro e w20 ⟨p20, u20, rfl, hr20, hs20⟩
      obtain ⟨rfl, rfl⟩ := HSAME.out _ _ _ _ ho18 hr20
      have hB20 : Below w6.heap.size w6 w20 := bafter hB19 hs20 (Nat.le_refl _)
      have hq20 := HSS.out w20 (BX6.out.below hB20)
      go_wp2_with fail
      refine hK.out _ _ hq20 (fun _ => ?_)
      clear hK K
      try simp only [Act.put, List.setIfInBounds_toArray, List.set_cons_zero, List.set_cons_succ]
      refine takeD (i := 21) (v := .bool true) (some 46) rfl (by kernel_rfl) (by kernel_rfl) (by kernel_rfl) (fun _ _ _ h => h) (Or.inl ⟨by rfl, ?hy21⟩) (by assumption) (by rfl) ?rest21
      case hy21 => first | (intro w hSw; (try dsimp only at hSw); obtain ⟨q0, q1⟩ := hSw; go_simp; done) | (intro w hSw; (try dsimp only at hSw); obtain ⟨q0, q1⟩ := hSw; go_simp; with_reducible rfl)
      try simp only [Act.put, List.setIfInBounds_toArray, List.set_cons_zero, List.set_cons_succ]
      refine takeD (i := 22) (v := ?v22) (some 47) rfl (by kernel_rfl) (by kernel_rfl) (by kernel_rfl) (fun _ _ _ h => h) (Or.inl ⟨by rfl, ?hy22⟩) (by assumption) (by rfl) ?rest22
      case hy22 => first | (intro w hSw; (try dsimp only at hSw); obtain ⟨q0, q1⟩ := hSw; go_simp; done) | (intro w hSw; (try dsimp only at hSw); obtain ⟨q0, q1⟩ := hSw; go_simp; with_reducible rfl)
      try simp only [Act.put, List.setIfInBounds_toArray, List.set_cons_zero, List.set_cons_succ]
      refine wpAnyH_ready (rs := [23]) (by kernel_rfl) (by simp) ?_
      refine AllReadyH.cons rfl (fun K hK => ?_) AllReadyH.nil
      go_simp
      refine hK.out _ _ hq20 (fun _ => ?_)
      clear hK K
      try simp only [Act.put, List.setIfInBounds_toArray, List.set_cons_zero, List.set_cons_succ]
      refine wpAnyH_done (by kernel_rfl) ?_ _
      go_wp2
      go_ret
      exact ⟨by first | rfl | simp, bafter HB6.out hB20 (Nat.le_refl _)⟩
    · obtain ⟨cx23, w23, hcv23, hby23, hs23, _⟩ := conv_str w9 T HT.out
      rw [HST.out] at hcv23
      go_simp
      have hB23 : Below w6.heap.size w6 w23 := bafter hB9 hs23 (Nat.le_refl _)
      have hq23 := HSS.out w23 (BX6.out.below hB23)
      refine hK.out _ _ hq23 (fun _ => ?_)
      clear hK K
      try simp only [Act.put, List.setIfInBounds_toArray, List.set_cons_zero, List.set_cons_succ]
      clear hcv23
      refine wpAnyH_ready (rs := [15]) (by kernel_rfl) (by simp) ?_
      refine AllReadyH.cons rfl (fun K hK => ?_) AllReadyH.nil
      go_simp
      refine (dplace_calls _ D 1 T [] at' (HDOC6.out.below hB23) (HK6.out.below hB23) (by have := T1.out; omega)).mono ?_
      rintro e w24 ⟨p24, u24, rfl, ho24, hs24⟩
      have hB24 : Below w6.heap.size w6 w24 := bafter hB23 hs24 (Nat.le_refl _)
      have hq24 := HSS.out w24 (BX6.out.below hB24)
      go_wp2_with fail
      refine hK.out _ _ hq24 (fun _ => ?_)
      clear hK K
      try simp only [Act.put, List.setIfInBounds_toArray, List.set_cons_zero, List.set_cons_succ]
      refine wpAnyH_ready (rs := [20]) (by kernel_rfl) (by simp) ?_
      refine AllReadyH.cons rfl (fun K hK => ?_) AllReadyH.nil
      go_simp
      refine (rplace_calls _ _ cx23 T rv (linesL T) at' (hby23.below hs24) (HL6.out.below hB24) (by have := T1.out; omega) HLL.out.1 HLL.out.2).mono ?_
      rintro e w25 ⟨p25, u25, rfl, hr25, hs25⟩
      obtain ⟨rfl, rfl⟩ := HSAME.out _ _ _ _ ho24 hr25
      have hB25 : Below w6.heap.size w6 w25 := bafter hB24 hs25 (Nat.le_refl _)
      have hq25 := HSS.out w25 (BX6.out.below hB25)
      go_wp2_with fail
      refine hK.out _ _ hq25 (fun _ => ?_)
      clear hK K
      try simp only [Act.put, List.setIfInBounds_toArray, List.set_cons_zero, List.set_cons_succ]
      refine takeD (i := 21) (v := .bool true) (some 46) rfl (by kernel_rfl) (by kernel_rfl) (by kernel_rfl) (fun _ _ _ h => h) (Or.inl ⟨by rfl, ?hy26⟩) (by assumption) (by rfl) ?rest26
      case hy26 => first | (intro w hSw; (try dsimp only at hSw); obtain ⟨q0, q1⟩ := hSw; go_simp; done) | (intro w hSw; (try dsimp only at hSw); obtain ⟨q0, q1⟩ := hSw; go_simp; with_reducible rfl)
      try simp only [Act.put, List.setIfInBounds_toArray, List.set_cons_zero, List.set_cons_succ]
      refine takeD (i := 22) (v := ?v27) (some 47) rfl (by kernel_rfl) (by kernel_rfl) (by kernel_rfl) (fun _ _ _ h => h) (Or.inl ⟨by rfl, ?hy27⟩) (by assumption) (by rfl) ?rest27
      case hy27 => first | (intro w hSw; (try dsimp only at hSw); obtain ⟨q0, q1⟩ := hSw; go_simp; done) | (intro w hSw; (try dsimp only at hSw); obtain ⟨q0, q1⟩ := hSw; go_simp; with_reducible rfl)
      try simp only [Act.put, List.setIfInBounds_toArray, List.set_cons_zero, List.set_cons_succ]
      refine wpAnyH_ready (rs := [23]) (by kernel_rfl) (by simp) ?_
      refine AllReadyH.cons rfl (fun K hK => ?_) AllReadyH.nil
      go_simp
      refine hK.out _ _ hq25 (fun _ => ?_)
      clear hK K
      try simp only [Act.put, List.setIfInBounds_toArray, List.set_cons_zero, List.set_cons_succ]
      refine wpAnyH_done (by kernel_rfl) ?_ _
      go_wp2
      go_ret
      exact ⟨by first | rfl | simp, bafter HB6.out hB25 (Nat.le_refl _)⟩
  · obtain ⟨cx28, w28, hcv28, hby28, hs28, _⟩ := conv_str w7 T HT.out
    rw [HST.out] at hcv28
    go_simp
    have hB28 : Below w6.heap.size w6 w28 := bafter hB7 hs28 (Nat.le_refl _)
    have hq28 := HSS.out w28 (BX6.out.below hB28)
    refine hK.out _ _ hq28 (fun _ => ?_)
    clear hK K
    try simp only [Act.put, List.setIfInBounds_toArray, List.set_cons_zero, List.set_cons_succ]
    clear hcv28
    refine wpAnyH_ready (rs := [4]) (by kernel_rfl) (by simp) ?_
    refine AllReadyH.cons rfl (fun K hK => ?_) AllReadyH.nil
    go_simp
    refine (doffset_calls _ D 1 T [] p u (HDOC6.out.below hB28) (HK6.out.below hB28) (by have := T1.out; omega)).mono ?_
    rintro e w29 ⟨r29, rfl, ho29, hs29⟩
    have hB29 : Below w6.heap.size w6 w29 := bafter hB28 hs29 (Nat.le_refl _)
    have hq29 := HSS.out w29 (BX6.out.below hB29)
    go_wp2_with fail
    refine hK.out _ _ hq29 (fun _ => ?_)
    clear hK K
    try simp only [Act.put, List.setIfInBounds_toArray, List.set_cons_zero, List.set_cons_succ]
    refine wpAnyH_ready (rs := [9]) (by kernel_rfl) (by simp) ?_
    refine AllReadyH.cons rfl (fun K hK => ?_) AllReadyH.nil
    go_simp
    refine (roffset_calls _ _ cx28 T rv (linesL T) p u (hby28.below hs29) (HL6.out.below hB29) (by have := T1.out; omega) hu).mono ?_
    rintro e w30 ⟨s30, rfl, hr30, hs30⟩
    obtain rfl := off_one ho29 hr30
    have hB30 : Below w6.heap.size w6 w30 := bafter hB29 hs30 (Nat.le_refl _)
    have hq30 := HSS.out w30 (BX6.out.below hB30)
    go_wp2_with fail
    refine hK.out _ _ hq30 (fun _ => ?_)
    clear hK K
    try simp only [Act.put, List.setIfInBounds_toArray, List.set_cons_zero, List.set_cons_succ]
    refine takeD (i := 10) (v := .bool true) (some 35) rfl (by kernel_rfl) (by kernel_rfl) (by kernel_rfl) (fun _ _ _ h => h) (Or.inl ⟨by rfl, ?hy31⟩) (by assumption) (by rfl) ?rest31
    case hy31 => first | (intro w hSw; (try dsimp only at hSw); obtain ⟨q0, q1⟩ := hSw; go_simp; done) | (intro w hSw; (try dsimp only at hSw); obtain ⟨q0, q1⟩ := hSw; go_simp; with_reducible rfl)
    try simp only [Act.put, List.setIfInBounds_toArray, List.set_cons_zero, List.set_cons_succ]
    refine takeD (i := 11) (v := ?v32) (some 36) rfl (by kernel_rfl) (by kernel_rfl) (by kernel_rfl) (fun _ _ _ h => h) (Or.inl ⟨by rfl, ?hy32⟩) (by assumption) (by rfl) ?rest32
    case hy32 => first | (intro w hSw; (try dsimp only at hSw); obtain ⟨q0, q1⟩ := hSw; go_simp; done) | (intro w hSw; (try dsimp only at hSw); obtain ⟨q0, q1⟩ := hSw; go_simp; with_reducible rfl)
    try simp only [Act.put, List.setIfInBounds_toArray, List.set_cons_zero, List.set_cons_succ]
    refine takeD (i := 12) (v := ?v33) (some 37) rfl (by kernel_rfl) (by kernel_rfl) (by kernel_rfl) (fun _ _ _ h => h) (Or.inl ⟨by rfl, ?hy33⟩) (by assumption) (by rfl) ?rest33
    case hy33 => first | (intro w hSw; (try dsimp only at hSw); obtain ⟨q0, q1⟩ := hSw; go_simp; done) | (intro w hSw; (try dsimp only at hSw); obtain ⟨q0, q1⟩ := hSw; go_simp; with_reducible rfl)
    try simp only [Act.put, List.setIfInBounds_toArray, List.set_cons_zero, List.set_cons_succ]
    refine takeD (i := 13) (v := ?v34) (some 38) rfl (by kernel_rfl) (by kernel_rfl) (by kernel_rfl) (fun _ _ _ h => h) (Or.inl ⟨by rfl, ?hy34⟩) (by assumption) (by rfl) ?rest34
    case hy34 => first | (intro w hSw; (try dsimp only at hSw); obtain ⟨q0, q1⟩ := hSw; go_simp; done) | (intro w hSw; (try dsimp only at hSw); obtain ⟨q0, q1⟩ := hSw; go_simp; with_reducible rfl)
    try simp only [Act.put, List.setIfInBounds_toArray, List.set_cons_zero, List.set_cons_succ]
    refine takeD (i := 14) (v := ?v35) (some 39) rfl (by kernel_rfl) (by kernel_rfl) (by kernel_rfl) (fun _ _ _ h => h) (Or.inl ⟨by rfl, ?hy35⟩) (by assumption) (by rfl) ?rest35
    case hy35 => first | (intro w hSw; (try dsimp only at hSw); obtain ⟨q0, q1⟩ := hSw; go_simp; done) | (intro w hSw; (try dsimp only at hSw); obtain ⟨q0, q1⟩ := hSw; go_simp; with_reducible rfl)
    try simp only [Act.put, List.setIfInBounds_toArray, List.set_cons_zero, List.set_cons_succ]
    refine takeD (i := 16) (v := ?v36) (some 41) rfl (by kernel_rfl) (by kernel_rfl) (by kernel_rfl) (fun _ _ _ h => h) (Or.inl ⟨by rfl, ?hy36⟩) (by assumption) (by rfl) ?rest36
    case hy36 => first | (intro w hSw; (try dsimp only at hSw); obtain ⟨q0, q1⟩ := hSw; go_simp; done) | (intro w hSw; (try dsimp only at hSw); obtain ⟨q0, q1⟩ := hSw; go_simp; with_reducible rfl)
    try simp only [Act.put, List.setIfInBounds_toArray, List.set_cons_zero, List.set_cons_succ]
    refine takeD (i := 18) (v := ?v37) (some 43) rfl (by kernel_rfl) (by kernel_rfl) (by kernel_rfl) (fun _ _ _ h => h) (Or.inl ⟨by rfl, ?hy37⟩) (by assumption) (by rfl) ?rest37
    case hy37 => first | (intro w hSw; (try dsimp only at hSw); obtain ⟨q0, q1⟩ := hSw; go_simp; done) | (intro w hSw; (try dsimp only at hSw); obtain ⟨q0, q1⟩ := hSw; go_simp; with_reducible rfl)
    try simp only [Act.put, List.setIfInBounds_toArray, List.set_cons_zero, List.set_cons_succ]
    refine takeD (i := 19) (v := ?v38) (some 44) rfl (by kernel_rfl) (by kernel_rfl) (by kernel_rfl) (fun _ _ _ h => h) (Or.inl ⟨by rfl, ?hy38⟩) (by assumption) (by rfl) ?rest38
    case hy38 => first | (intro w hSw; (try dsimp only at hSw); obtain ⟨q0, q1⟩ := hSw; go_simp; done) | (intro w hSw; (try dsimp only at hSw); obtain ⟨q0, q1⟩ := hSw; go_simp; with_reducible rfl)
    try simp only [Act.put, List.setIfInBounds_toArray, List.set_cons_zero, List.set_cons_succ]
    refine wpAnyH_ready (rs := [15, 17]) (by kernel_rfl) (by simp) ?_
    refine AllReadyH.cons rfl (fun K hK => ?_) (AllReadyH.cons rfl (fun K hK => ?_) AllReadyH.nil)
    · go_simp
      refine (dplace_calls _ D 1 T [] at' (HDOC6.out.below hB30) (HK6.out.below hB30) (by have := T1.out; omega)).mono ?_
      rintro e w39 ⟨p39, u39, rfl, ho39, hs39⟩
      have hB39 : Below w6.heap.size w6 w39 := bafter hB30 hs39 (Nat.le_refl _)
      have hq39 := HSS.out w39 (BX6.out.below hB39)
      go_wp2_with fail
      refine hK.out _ _ hq39 (fun _ => ?_)
      clear hK K
      try simp only [Act.put, List.setIfInBounds_toArray, List.set_cons_zero, List.set_cons_succ]
      refine wpAnyH_ready (rs := [17]) (by kernel_rfl) (by simp) ?_
      refine AllReadyH.cons rfl (fun K hK => ?_) AllReadyH.nil
      obtain ⟨cx40, w40, hcv40, hby40, hs40, _⟩ := conv_str w39 T HT.out
      rw [HST.out] at hcv40
      go_simp
      have hB40 : Below w6.heap.size w6 w40 := bafter hB39 hs40 (Nat.le_refl _)
      have hq40 := HSS.out w40 (BX6.out.below hB40)
      refine hK.out _ _ hq40 (fun _ => ?_)
      clear hK K
      try simp only [Act.put, List.setIfInBounds_toArray, List.set_cons_zero, List.set_cons_succ]
      clear hcv40
      refine wpAnyH_ready (rs := [20]) (by kernel_rfl) (by simp) ?_
      refine AllReadyH.cons rfl (fun K hK => ?_) AllReadyH.nil
      go_simp
      refine (rplace_calls _ _ cx40 T rv (linesL T) at' hby40 (HL6.out.below hB40) (by have := T1.out; omega) HLL.out.1 HLL.out.2).mono ?_
      rintro e w41 ⟨p41, u41, rfl, hr41, hs41⟩
      obtain ⟨rfl, rfl⟩ := HSAME.out _ _ _ _ ho39 hr41
      have hB41 : Below w6.heap.size w6 w41 := bafter hB40 hs41 (Nat.le_refl _)
      have hq41 := HSS.out w41 (BX6.out.below hB41)
      go_wp2_with fail
      refine hK.out _ _ hq41 (fun _ => ?_)
      clear hK K
      try simp only [Act.put, List.setIfInBounds_toArray, List.set_cons_zero, List.set_cons_succ]
      refine takeD (i := 21) (v := .bool true) (some 46) rfl (by kernel_rfl) (by kernel_rfl) (by kernel_rfl) (fun _ _ _ h => h) (Or.inl ⟨by rfl, ?hy42⟩) (by assumption) (by rfl) ?rest42
      case hy42 => first | (intro w hSw; (try dsimp only at hSw); obtain ⟨q0, q1⟩ := hSw; go_simp; done) | (intro w hSw; (try dsimp only at hSw); obtain ⟨q0, q1⟩ := hSw; go_simp; with_reducible rfl)
      try simp only [Act.put, List.setIfInBounds_toArray, List.set_cons_zero, List.set_cons_succ]
      refine takeD (i := 22) (v := ?v43) (some 47) rfl (by kernel_rfl) (by kernel_rfl) (by kernel_rfl) (fun _ _ _ h => h) (Or.inl ⟨by rfl, ?hy43⟩) (by assumption) (by rfl) ?rest43
      case hy43 => first | (intro w hSw; (try dsimp only at hSw); obtain ⟨q0, q1⟩ := hSw; go_simp; done) | (intro w hSw; (try dsimp only at hSw); obtain ⟨q0, q1⟩ := hSw; go_simp; with_reducible rfl)
      try simp only [Act.put, List.setIfInBounds_toArray, List.set_cons_zero, List.set_cons_succ]
      refine wpAnyH_ready (rs := [23]) (by kernel_rfl) (by simp) ?_
      refine AllReadyH.cons rfl (fun K hK => ?_) AllReadyH.nil
      go_simp
      refine hK.out _ _ hq41 (fun _ => ?_)
      clear hK K
      try simp only [Act.put, List.setIfInBounds_toArray, List.set_cons_zero, List.set_cons_succ]
      refine wpAnyH_done (by kernel_rfl) ?_ _
      go_wp2
      go_ret
      exact ⟨by first | rfl | simp, bafter HB6.out hB41 (Nat.le_refl _)⟩
    · obtain ⟨cx44, w44, hcv44, hby44, hs44, _⟩ := conv_str w30 T HT.out
      rw [HST.out] at hcv44
      go_simp
      have hB44 : Below w6.heap.size w6 w44 := bafter hB30 hs44 (Nat.le_refl _)
      have hq44 := HSS.out w44 (BX6.out.below hB44)
      refine hK.out _ _ hq44 (fun _ => ?_)
      clear hK K
      try simp only [Act.put, List.setIfInBounds_toArray, List.set_cons_zero, List.set_cons_succ]
      clear hcv44
      refine wpAnyH_ready (rs := [15]) (by kernel_rfl) (by simp) ?_
      refine AllReadyH.cons rfl (fun K hK => ?_) AllReadyH.nil
      go_simp
      refine (dplace_calls _ D 1 T [] at' (HDOC6.out.below hB44) (HK6.out.below hB44) (by have := T1.out; omega)).mono ?_
      rintro e w45 ⟨p45, u45, rfl, ho45, hs45⟩
      have hB45 : Below w6.heap.size w6 w45 := bafter hB44 hs45 (Nat.le_refl _)
      have hq45 := HSS.out w45 (BX6.out.below hB45)
      go_wp2_with fail
      refine hK.out _ _ hq45 (fun _ => ?_)
      clear hK K
      try simp only [Act.put, List.setIfInBounds_toArray, List.set_cons_zero, List.set_cons_succ]
      refine wpAnyH_ready (rs := [20]) (by kernel_rfl) (by simp) ?_
      refine AllReadyH.cons rfl (fun K hK => ?_) AllReadyH.nil
      go_simp
      refine (rplace_calls _ _ cx44 T rv (linesL T) at' (hby44.below hs45) (HL6.out.below hB45) (by have := T1.out; omega) HLL.out.1 HLL.out.2).mono ?_
      rintro e w46 ⟨p46, u46, rfl, hr46, hs46⟩
      obtain ⟨rfl, rfl⟩ := HSAME.out _ _ _ _ ho45 hr46
      have hB46 : Below w6.heap.size w6 w46 := bafter hB45 hs46 (Nat.le_refl _)
      have hq46 := HSS.out w46 (BX6.out.below hB46)
      go_wp2_with fail
      refine hK.out _ _ hq46 (fun _ => ?_)
      clear hK K
      try simp only [Act.put, List.setIfInBounds_toArray, List.set_cons_zero, List.set_cons_succ]
      refine takeD (i := 21) (v := .bool true) (some 46) rfl (by kernel_rfl) (by kernel_rfl) (by kernel_rfl) (fun _ _ _ h => h) (Or.inl ⟨by rfl, ?hy47⟩) (by assumption) (by rfl) ?rest47
      case hy47 => first | (intro w hSw; (try dsimp only at hSw); obtain ⟨q0, q1⟩ := hSw; go_simp; done) | (intro w hSw; (try dsimp only at hSw); obtain ⟨q0, q1⟩ := hSw; go_simp; with_reducible rfl)
      try simp only [Act.put, List.setIfInBounds_toArray, List.set_cons_zero, List.set_cons_succ]
      refine takeD (i := 22) (v := ?v48) (some 47) rfl (by kernel_rfl) (by kernel_rfl) (by kernel_rfl) (fun _ _ _ h => h) (Or.inl ⟨by rfl, ?hy48⟩) (by assumption) (by rfl) ?rest48
      case hy48 => first | (intro w hSw; (try dsimp only at hSw); obtain ⟨q0, q1⟩ := hSw; go_simp; done) | (intro w hSw; (try dsimp only at hSw); obtain ⟨q0, q1⟩ := hSw; go_simp; with_reducible rfl)
      try simp only [Act.put, List.setIfInBounds_toArray, List.set_cons_zero, List.set_cons_succ]
      refine wpAnyH_ready (rs := [23]) (by kernel_rfl) (by simp) ?_
      refine AllReadyH.cons rfl (fun K hK => ?_) AllReadyH.nil
      go_simp
      refine hK.out _ _ hq46 (fun _ => ?_)
      clear hK K
      try simp only [Act.put, List.setIfInBounds_toArray, List.set_cons_zero, List.set_cons_succ]
      refine wpAnyH_done (by kernel_rfl) ?_ _
      go_wp2
      go_ret
      exact ⟨by first | rfl | simp, bafter HB6.out hB46 (Nat.le_refl _)⟩

end Go.Proofs.YtjkfnplmnoghlaaDoor
