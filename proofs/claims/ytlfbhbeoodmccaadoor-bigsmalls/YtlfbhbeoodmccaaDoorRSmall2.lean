/- The reference's Small of numbers with a sign. -/
import Derived.Test.YtlfbhbeoodmccaaDoorBigRef2
import Derived.Test.YtlfbhbeoodmccaaDoorBSmall
import Derived.Deep.RegionHeld3
namespace Go.Proofs.YtlfbhbeoodmccaaDoor
set_option linter.unusedVariables false
set_option linter.unusedSimpArgs false
set_option maxRecDepth 100000
open Go Go.RowKit Go.Shelf Go.Lib

theorem takeD {P : Program} {md : Region.Mode} {ops : Array Oper} {Q : Exit → Act → World → Prop} {S : World → Prop} {i : Nat} {oi : Oper} {v : Value} {fuel : Nat} {listed : Array Bool} {a : Act} {w : World} (d : Option Tmp) (hi : ops[i]? = some oi)
    (hs : Region.noSelect ops = true) (hf : Region.free md ops listed i = true) (hr : (Region.ready md ops listed).contains i = true)
    (hQ : ∀ c a w, Q (.panic c) (a.put oi.dst v) w → Q (.panic c) a w) (hy : YieldsIf P ops S oi v a) (hS : S w) (hd : oi.dst = d)
    (h : wpAnyH P md ops Q S fuel (listed.setIfInBounds i true) (a.put d v) w) : wpAnyH P md ops Q S (fuel + 1) listed a w :=
  wpAnyH_take hi hs hf hr hQ hy hS (by rw [hd]; exact h)

theorem max10 : (9223372036854775807 : Int).natAbs < 10 ^ 20 := by decide
theorem min10 : (-9223372036854775808 : Int).natAbs < 10 ^ 20 := by decide

set_option maxHeartbeats 4000000 in
theorem rnsmall_calls {K : Nat} {w : World} {v : Value} {z : Int} (hv : NArg K w v z) (hK : K ≤ 900) :
    Calls Tryd.prog 9 #[v] w fun e w' => e = .returned (.tuple #[.int .i64 (smallV z), .bool (smallB z)]) ∧ Below w.heap.size w w' := by
  obtain ⟨neg, dv, n, rfl, hd, hn, hz⟩ := hv
  obtain ⟨a, L, c, rfl, hsh⟩ := hd.shape
  clear hsh
  have hb := bel w (.cells #[.bool neg, .slice a L c] 32)
  have T0 := hide (Two.new w (.bool neg) (.slice a L c) 32).drew
  have Kx0 := hide hb.drew
  have V0 := hide (show NArg K _ (.agg #[.bool neg, .slice a L c]) z from ⟨neg, _, n, rfl, hd.below hb.drew, hn, hz⟩)
  have Hz := hide hz
  have hK1 : K ≤ K + 20 := by omega
  have hK2 : 20 ≤ K + 20 := by omega
  have hK3 : K + 20 ≤ 1000 := by omega
  clear hd hn hz hb
  by_cases hhi : z > 9223372036854775807
  · have hc1 : cmpI z 9223372036854775807 = 1 := by unfold cmpI; split <;> (try split) <;> omega
    have Ho : Hid (smallV z = 0 ∧ smallB z = false) := small_out (by omega)
    clear hhi
    go_enter Tryd.func9, Tryd.ntmps9
    go_wp2
    refine wp_region_held_drew (S := fun w' => w'.cell? ⟨w.heap.size, 0, none⟩ = some (.bool neg) ∧ w'.cell? ⟨w.heap.size, 1, none⟩ = some (.slice a L c)) (by kernel_rfl) ?_ (fun hHeld => ?_)
    · exact ⟨T0.out.c0, T0.out.c1⟩
    refine takeD (i := 0) (v := ?v1) (some 6) rfl (by kernel_rfl) (by kernel_rfl) (by kernel_rfl) (fun _ _ _ h => h) (Or.inl ⟨by rfl, ?hy1⟩) (by assumption) (by rfl) ?rest1
    case hy1 => first | (intro w hSw; (try dsimp only at hSw); go_simp; done) | (intro w hSw; (try dsimp only at hSw); go_simp; with_reducible rfl)
    try simp only [Act.put, List.setIfInBounds_toArray, List.set_cons_zero, List.set_cons_succ]
    refine wpAnyH_ready (rs := [1]) (by kernel_rfl) (by simp) ?_
    refine AllReadyH.cons rfl (fun K hK => ?_) AllReadyH.nil
    go_simp
    refine (rof_calls _ 9223372036854775807 (by decide) (by decide)).mono ?_
    rintro e y1 ⟨r1, rfl, q1, g1⟩
    obtain ⟨b1, a1, L1, k1, rfl⟩ := q1.form
    have Q1 := hide (q1.arg max10)
    clear q1
    have T1 := hide (T0.out.keep g1)
    have V1 := hide (V0.out.below g1)
    have Kx1 := hide (bafter Kx0.out g1 (Nat.le_refl _))
    clear g1 T0 V0 Kx0 hHeld
    go_wp2_with fail
    refine hK.out _ _ ?_ (fun hHeld => ?_)
    · exact ⟨T1.out.c0, T1.out.c1⟩
    clear hK K
    try simp only [Act.put, List.setIfInBounds_toArray, List.set_cons_zero, List.set_cons_succ]
    refine wpAnyH_ready (rs := [2]) (by kernel_rfl) (by simp) ?_
    refine AllReadyH.cons rfl (fun K hK => ?_) AllReadyH.nil
    go_simp
    refine (rncmp_calls (V1.out.up hK1) (Q1.out.up hK2) hK3).mono ?_
    rintro e y2 ⟨rfl, g2⟩
    rw [hc1]
    have T2 := hide (T1.out.keep g2)
    have V2 := hide (V1.out.below g2)
    have Kx2 := hide (bafter Kx1.out g2 (Nat.le_refl _))
    clear g2 T1 V1 Kx1 hHeld
    go_wp2_with fail
    refine hK.out _ _ ?_ (fun hHeld => ?_)
    · exact ⟨T2.out.c0, T2.out.c1⟩
    clear hK K
    try simp only [Act.put, List.setIfInBounds_toArray, List.set_cons_zero, List.set_cons_succ]
    refine takeD (i := 3) (v := ?v2) (some 9) rfl (by kernel_rfl) (by kernel_rfl) (by kernel_rfl) (fun _ _ _ h => h) (Or.inl ⟨by rfl, ?hy2⟩) (by assumption) (by rfl) ?rest2
    case hy2 => first | (intro w hSw; (try dsimp only at hSw); go_simp; done) | (intro w hSw; (try dsimp only at hSw); go_simp; with_reducible rfl)
    try simp only [Act.put, List.setIfInBounds_toArray, List.set_cons_zero, List.set_cons_succ]
    refine takeD (i := 4) (v := ?v3) (some 10) rfl (by kernel_rfl) (by kernel_rfl) (by kernel_rfl) (fun _ _ _ h => h) (Or.inl ⟨by rfl, ?hy3⟩) (by assumption) (by rfl) ?rest3
    case hy3 => first | (intro w hSw; (try dsimp only at hSw); go_simp; done) | (intro w hSw; (try dsimp only at hSw); go_simp; with_reducible rfl)
    try simp only [Act.put, List.setIfInBounds_toArray, List.set_cons_zero, List.set_cons_succ]
    refine takeD (i := 5) (v := undef) (some 11) rfl (by kernel_rfl) (by kernel_rfl) (by kernel_rfl) (fun _ _ _ h => h) (Or.inr ⟨by rfl, rfl⟩) (by assumption) (by rfl) ?rest4
    try simp only [Act.put, List.setIfInBounds_toArray, List.set_cons_zero, List.set_cons_succ]
    refine takeD (i := 6) (v := undef) (some 12) rfl (by kernel_rfl) (by kernel_rfl) (by kernel_rfl) (fun _ _ _ h => h) (Or.inr ⟨by rfl, rfl⟩) (by assumption) (by rfl) ?rest5
    try simp only [Act.put, List.setIfInBounds_toArray, List.set_cons_zero, List.set_cons_succ]
    refine takeD (i := 7) (v := undef) (some 13) rfl (by kernel_rfl) (by kernel_rfl) (by kernel_rfl) (fun _ _ _ h => h) (Or.inr ⟨by rfl, rfl⟩) (by assumption) (by rfl) ?rest6
    try simp only [Act.put, List.setIfInBounds_toArray, List.set_cons_zero, List.set_cons_succ]
    refine takeD (i := 8) (v := undef) (some 14) rfl (by kernel_rfl) (by kernel_rfl) (by kernel_rfl) (fun _ _ _ h => h) (Or.inr ⟨by rfl, rfl⟩) (by assumption) (by rfl) ?rest7
    try simp only [Act.put, List.setIfInBounds_toArray, List.set_cons_zero, List.set_cons_succ]
    refine takeD (i := 9) (v := ?v8) (some 15) rfl (by kernel_rfl) (by kernel_rfl) (by kernel_rfl) (fun _ _ _ h => h) (Or.inl ⟨by rfl, ?hy8⟩) (by assumption) (by rfl) ?rest8
    case hy8 => first | (intro w hSw; (try dsimp only at hSw); go_simp; done) | (intro w hSw; (try dsimp only at hSw); go_simp; with_reducible rfl)
    try simp only [Act.put, List.setIfInBounds_toArray, List.set_cons_zero, List.set_cons_succ]
    refine wpAnyH_done (by kernel_rfl) ?_ _
    go_wp2
    go_ret2
    exact ⟨by rw [Ho.out.1, Ho.out.2]; rfl, Kx2.out⟩
  by_cases hlo : z < -9223372036854775808
  · have hc1 : cmpI z 9223372036854775807 = -1 := by unfold cmpI; split <;> (try split) <;> omega
    have hc2 : cmpI z (-9223372036854775808) = -1 := by unfold cmpI; split <;> (try split) <;> omega
    have Ho : Hid (smallV z = 0 ∧ smallB z = false) := small_out (by omega)
    clear hhi hlo
    go_enter Tryd.func9, Tryd.ntmps9
    go_wp2
    refine wp_region_held_drew (S := fun w' => w'.cell? ⟨w.heap.size, 0, none⟩ = some (.bool neg) ∧ w'.cell? ⟨w.heap.size, 1, none⟩ = some (.slice a L c)) (by kernel_rfl) ?_ (fun hHeld => ?_)
    · exact ⟨T0.out.c0, T0.out.c1⟩
    refine takeD (i := 0) (v := ?v9) (some 6) rfl (by kernel_rfl) (by kernel_rfl) (by kernel_rfl) (fun _ _ _ h => h) (Or.inl ⟨by rfl, ?hy9⟩) (by assumption) (by rfl) ?rest9
    case hy9 => first | (intro w hSw; (try dsimp only at hSw); go_simp; done) | (intro w hSw; (try dsimp only at hSw); go_simp; with_reducible rfl)
    try simp only [Act.put, List.setIfInBounds_toArray, List.set_cons_zero, List.set_cons_succ]
    refine wpAnyH_ready (rs := [1]) (by kernel_rfl) (by simp) ?_
    refine AllReadyH.cons rfl (fun K hK => ?_) AllReadyH.nil
    go_simp
    refine (rof_calls _ 9223372036854775807 (by decide) (by decide)).mono ?_
    rintro e y1 ⟨r1, rfl, q1, g1⟩
    obtain ⟨b1, a1, L1, k1, rfl⟩ := q1.form
    have Q1 := hide (q1.arg max10)
    clear q1
    have T1 := hide (T0.out.keep g1)
    have V1 := hide (V0.out.below g1)
    have Kx1 := hide (bafter Kx0.out g1 (Nat.le_refl _))
    clear g1 T0 V0 Kx0 hHeld
    go_wp2_with fail
    refine hK.out _ _ ?_ (fun hHeld => ?_)
    · exact ⟨T1.out.c0, T1.out.c1⟩
    clear hK K
    try simp only [Act.put, List.setIfInBounds_toArray, List.set_cons_zero, List.set_cons_succ]
    refine wpAnyH_ready (rs := [2]) (by kernel_rfl) (by simp) ?_
    refine AllReadyH.cons rfl (fun K hK => ?_) AllReadyH.nil
    go_simp
    refine (rncmp_calls (V1.out.up hK1) (Q1.out.up hK2) hK3).mono ?_
    rintro e y2 ⟨rfl, g2⟩
    rw [hc1]
    have T2 := hide (T1.out.keep g2)
    have V2 := hide (V1.out.below g2)
    have Kx2 := hide (bafter Kx1.out g2 (Nat.le_refl _))
    clear g2 T1 V1 Kx1 hHeld
    go_wp2_with fail
    refine hK.out _ _ ?_ (fun hHeld => ?_)
    · exact ⟨T2.out.c0, T2.out.c1⟩
    clear hK K
    try simp only [Act.put, List.setIfInBounds_toArray, List.set_cons_zero, List.set_cons_succ]
    refine takeD (i := 3) (v := ?v10) (some 9) rfl (by kernel_rfl) (by kernel_rfl) (by kernel_rfl) (fun _ _ _ h => h) (Or.inl ⟨by rfl, ?hy10⟩) (by assumption) (by rfl) ?rest10
    case hy10 => first | (intro w hSw; (try dsimp only at hSw); go_simp; done) | (intro w hSw; (try dsimp only at hSw); go_simp; with_reducible rfl)
    try simp only [Act.put, List.setIfInBounds_toArray, List.set_cons_zero, List.set_cons_succ]
    refine takeD (i := 4) (v := ?v11) (some 10) rfl (by kernel_rfl) (by kernel_rfl) (by kernel_rfl) (fun _ _ _ h => h) (Or.inl ⟨by rfl, ?hy11⟩) (by assumption) (by rfl) ?rest11
    case hy11 => first | (intro w hSw; (try dsimp only at hSw); go_simp; done) | (intro w hSw; (try dsimp only at hSw); go_simp; with_reducible rfl)
    try simp only [Act.put, List.setIfInBounds_toArray, List.set_cons_zero, List.set_cons_succ]
    refine takeD (i := 5) (v := ?v12) (some 11) rfl (by kernel_rfl) (by kernel_rfl) (by kernel_rfl) (fun _ _ _ h => h) (Or.inl ⟨by rfl, ?hy12⟩) (by assumption) (by rfl) ?rest12
    case hy12 => first | (intro w hSw; (try dsimp only at hSw); go_simp; done) | (intro w hSw; (try dsimp only at hSw); go_simp; with_reducible rfl)
    try simp only [Act.put, List.setIfInBounds_toArray, List.set_cons_zero, List.set_cons_succ]
    refine wpAnyH_ready (rs := [6]) (by kernel_rfl) (by simp) ?_
    refine AllReadyH.cons rfl (fun K hK => ?_) AllReadyH.nil
    go_simp
    refine (rof_calls _ (-9223372036854775808) (by decide) (by decide)).mono ?_
    rintro e y3 ⟨r3, rfl, q3, g3⟩
    obtain ⟨b3, a3, L3, k3, rfl⟩ := q3.form
    have Q3 := hide (q3.arg min10)
    clear q3
    have T3 := hide (T2.out.keep g3)
    have V3 := hide (V2.out.below g3)
    have Kx3 := hide (bafter Kx2.out g3 (Nat.le_refl _))
    clear g3 T2 V2 Kx2 hHeld
    go_wp2_with fail
    refine hK.out _ _ ?_ (fun hHeld => ?_)
    · exact ⟨T3.out.c0, T3.out.c1⟩
    clear hK K
    try simp only [Act.put, List.setIfInBounds_toArray, List.set_cons_zero, List.set_cons_succ]
    refine wpAnyH_ready (rs := [7]) (by kernel_rfl) (by simp) ?_
    refine AllReadyH.cons rfl (fun K hK => ?_) AllReadyH.nil
    go_simp
    refine (rncmp_calls (V3.out.up hK1) (Q3.out.up hK2) hK3).mono ?_
    rintro e y4 ⟨rfl, g4⟩
    rw [hc2]
    have T4 := hide (T3.out.keep g4)
    have V4 := hide (V3.out.below g4)
    have Kx4 := hide (bafter Kx3.out g4 (Nat.le_refl _))
    clear g4 T3 V3 Kx3 hHeld
    go_wp2_with fail
    refine hK.out _ _ ?_ (fun hHeld => ?_)
    · exact ⟨T4.out.c0, T4.out.c1⟩
    clear hK K
    try simp only [Act.put, List.setIfInBounds_toArray, List.set_cons_zero, List.set_cons_succ]
    refine takeD (i := 8) (v := ?v13) (some 14) rfl (by kernel_rfl) (by kernel_rfl) (by kernel_rfl) (fun _ _ _ h => h) (Or.inl ⟨by rfl, ?hy13⟩) (by assumption) (by rfl) ?rest13
    case hy13 => first | (intro w hSw; (try dsimp only at hSw); go_simp; done) | (intro w hSw; (try dsimp only at hSw); go_simp; with_reducible rfl)
    try simp only [Act.put, List.setIfInBounds_toArray, List.set_cons_zero, List.set_cons_succ]
    refine takeD (i := 9) (v := ?v14) (some 15) rfl (by kernel_rfl) (by kernel_rfl) (by kernel_rfl) (fun _ _ _ h => h) (Or.inl ⟨by rfl, ?hy14⟩) (by assumption) (by rfl) ?rest14
    case hy14 => first | (intro w hSw; (try dsimp only at hSw); go_simp; done) | (intro w hSw; (try dsimp only at hSw); go_simp; with_reducible rfl)
    try simp only [Act.put, List.setIfInBounds_toArray, List.set_cons_zero, List.set_cons_succ]
    refine wpAnyH_done (by kernel_rfl) ?_ _
    go_wp2
    go_ret2
    exact ⟨by rw [Ho.out.1, Ho.out.2]; rfl, Kx4.out⟩
  have hc1 : ¬ cmpI z 9223372036854775807 > 0 := by unfold cmpI; split <;> (try split) <;> omega
  have hc2 : ¬ cmpI z (-9223372036854775808) < 0 := by unfold cmpI; split <;> (try split) <;> omega
  have hb1 : decide (cmpI z 9223372036854775807 > 0) = false := decide_eq_false hc1
  have hb2 : decide (cmpI z (-9223372036854775808) < 0) = false := decide_eq_false hc2
  have Ho := hide (small_in (by omega) (by omega : z ≤ 9223372036854775807))
  have Hhi := hide hhi
  have Hlo := hide hlo
  clear hhi hlo
  go_enter Tryd.func9, Tryd.ntmps9
  go_wp2
  refine wp_region_held_drew (S := fun w' => w'.cell? ⟨w.heap.size, 0, none⟩ = some (.bool neg) ∧ w'.cell? ⟨w.heap.size, 1, none⟩ = some (.slice a L c)) (by kernel_rfl) ?_ (fun hHeld => ?_)
  · exact ⟨T0.out.c0, T0.out.c1⟩
  refine takeD (i := 0) (v := ?v15) (some 6) rfl (by kernel_rfl) (by kernel_rfl) (by kernel_rfl) (fun _ _ _ h => h) (Or.inl ⟨by rfl, ?hy15⟩) (by assumption) (by rfl) ?rest15
  case hy15 => first | (intro w hSw; (try dsimp only at hSw); go_simp; done) | (intro w hSw; (try dsimp only at hSw); go_simp; with_reducible rfl)
  try simp only [Act.put, List.setIfInBounds_toArray, List.set_cons_zero, List.set_cons_succ]
  refine wpAnyH_ready (rs := [1]) (by kernel_rfl) (by simp) ?_
  refine AllReadyH.cons rfl (fun K hK => ?_) AllReadyH.nil
  go_simp
  refine (rof_calls _ 9223372036854775807 (by decide) (by decide)).mono ?_
  rintro e y1 ⟨r1, rfl, q1, g1⟩
  obtain ⟨b1, a1, L1, k1, rfl⟩ := q1.form
  have Q1 := hide (q1.arg max10)
  clear q1
  have T1 := hide (T0.out.keep g1)
  have V1 := hide (V0.out.below g1)
  have Kx1 := hide (bafter Kx0.out g1 (Nat.le_refl _))
  clear g1 T0 V0 Kx0 hHeld
  go_wp2_with fail
  refine hK.out _ _ ?_ (fun hHeld => ?_)
  · exact ⟨T1.out.c0, T1.out.c1⟩
  clear hK K
  try simp only [Act.put, List.setIfInBounds_toArray, List.set_cons_zero, List.set_cons_succ]
  refine wpAnyH_ready (rs := [2]) (by kernel_rfl) (by simp) ?_
  refine AllReadyH.cons rfl (fun K hK => ?_) AllReadyH.nil
  go_simp
  refine (rncmp_calls (V1.out.up hK1) (Q1.out.up hK2) hK3).mono ?_
  rintro e y2 ⟨rfl, g2⟩
  generalize cmpI z 9223372036854775807 = cc1 at *
  have T2 := hide (T1.out.keep g2)
  have V2 := hide (V1.out.below g2)
  have Kx2 := hide (bafter Kx1.out g2 (Nat.le_refl _))
  clear g2 T1 V1 Kx1 hHeld
  go_wp2_with fail
  refine hK.out _ _ ?_ (fun hHeld => ?_)
  · exact ⟨T2.out.c0, T2.out.c1⟩
  clear hK K
  try simp only [Act.put, List.setIfInBounds_toArray, List.set_cons_zero, List.set_cons_succ]
  refine takeD (i := 3) (v := ?v16) (some 9) rfl (by kernel_rfl) (by kernel_rfl) (by kernel_rfl) (fun _ _ _ h => h) (Or.inl ⟨by rfl, ?hy16⟩) (by assumption) (by rfl) ?rest16
  case hy16 => first | (intro w hSw; (try dsimp only at hSw); go_simp; done) | (intro w hSw; (try dsimp only at hSw); go_simp; with_reducible rfl)
  try simp only [Act.put, List.setIfInBounds_toArray, List.set_cons_zero, List.set_cons_succ]
  try simp only [hb1]
  refine takeD (i := 4) (v := ?v17) (some 10) rfl (by kernel_rfl) (by kernel_rfl) (by kernel_rfl) (fun _ _ _ h => h) (Or.inl ⟨by rfl, ?hy17⟩) (by assumption) (by rfl) ?rest17
  case hy17 => first | (intro w hSw; (try dsimp only at hSw); go_simp; done) | (intro w hSw; (try dsimp only at hSw); go_simp; with_reducible rfl)
  try simp only [Act.put, List.setIfInBounds_toArray, List.set_cons_zero, List.set_cons_succ]
  refine takeD (i := 5) (v := ?v18) (some 11) rfl (by kernel_rfl) (by kernel_rfl) (by kernel_rfl) (fun _ _ _ h => h) (Or.inl ⟨by rfl, ?hy18⟩) (by assumption) (by rfl) ?rest18
  case hy18 => first | (intro w hSw; (try dsimp only at hSw); go_simp; done) | (intro w hSw; (try dsimp only at hSw); go_simp; with_reducible rfl)
  try simp only [Act.put, List.setIfInBounds_toArray, List.set_cons_zero, List.set_cons_succ]
  refine wpAnyH_ready (rs := [6]) (by kernel_rfl) (by simp) ?_
  refine AllReadyH.cons rfl (fun K hK => ?_) AllReadyH.nil
  go_simp
  refine (rof_calls _ (-9223372036854775808) (by decide) (by decide)).mono ?_
  rintro e y3 ⟨r3, rfl, q3, g3⟩
  obtain ⟨b3, a3, L3, k3, rfl⟩ := q3.form
  have Q3 := hide (q3.arg min10)
  clear q3
  have T3 := hide (T2.out.keep g3)
  have V3 := hide (V2.out.below g3)
  have Kx3 := hide (bafter Kx2.out g3 (Nat.le_refl _))
  clear g3 T2 V2 Kx2 hHeld
  go_wp2_with fail
  refine hK.out _ _ ?_ (fun hHeld => ?_)
  · exact ⟨T3.out.c0, T3.out.c1⟩
  clear hK K
  try simp only [Act.put, List.setIfInBounds_toArray, List.set_cons_zero, List.set_cons_succ]
  refine wpAnyH_ready (rs := [7]) (by kernel_rfl) (by simp) ?_
  refine AllReadyH.cons rfl (fun K hK => ?_) AllReadyH.nil
  go_simp
  refine (rncmp_calls (V3.out.up hK1) (Q3.out.up hK2) hK3).mono ?_
  rintro e y4 ⟨rfl, g4⟩
  generalize cmpI z (-9223372036854775808) = cc2 at *
  have T4 := hide (T3.out.keep g4)
  have V4 := hide (V3.out.below g4)
  have Kx4 := hide (bafter Kx3.out g4 (Nat.le_refl _))
  clear g4 T3 V3 Kx3 hHeld
  go_wp2_with fail
  refine hK.out _ _ ?_ (fun hHeld => ?_)
  · exact ⟨T4.out.c0, T4.out.c1⟩
  clear hK K
  try simp only [Act.put, List.setIfInBounds_toArray, List.set_cons_zero, List.set_cons_succ]
  refine takeD (i := 8) (v := ?v19) (some 14) rfl (by kernel_rfl) (by kernel_rfl) (by kernel_rfl) (fun _ _ _ h => h) (Or.inl ⟨by rfl, ?hy19⟩) (by assumption) (by rfl) ?rest19
  case hy19 => first | (intro w hSw; (try dsimp only at hSw); go_simp; done) | (intro w hSw; (try dsimp only at hSw); go_simp; with_reducible rfl)
  try simp only [Act.put, List.setIfInBounds_toArray, List.set_cons_zero, List.set_cons_succ]
  try simp only [hb2]
  refine takeD (i := 9) (v := ?v20) (some 15) rfl (by kernel_rfl) (by kernel_rfl) (by kernel_rfl) (fun _ _ _ h => h) (Or.inl ⟨by rfl, ?hy20⟩) (by assumption) (by rfl) ?rest20
  case hy20 => first | (intro w hSw; (try dsimp only at hSw); go_simp; done) | (intro w hSw; (try dsimp only at hSw); go_simp; with_reducible rfl)
  try simp only [Act.put, List.setIfInBounds_toArray, List.set_cons_zero, List.set_cons_succ]
  refine wpAnyH_done (by kernel_rfl) ?_ _
  have d0 := T4.out.c0
  have d1 := T4.out.c1
  obtain ⟨neg', dv', n', e', hd, hn, hz⟩ := V4.out
  injection e' with e'
  simp only [Array.mk.injEq, List.cons.injEq, Value.bool.injEq, and_true] at e'
  obtain ⟨rfl, rfl⟩ := e'
  obtain ⟨xs, hx0, cx, rfl⟩ := hd
  obtain ⟨ao, ca, ev⟩ := hx0.len
  cases ev
  have Hz2 := hide hz
  have Hhi2 : Hid (sgn neg (val 10 xs) ≤ 9223372036854775807) := by show _ ≤ _; rw [← hz]; have := Hhi.out; omega
  have Hlo2 : Hid (-9223372036854775808 ≤ sgn neg (val 10 xs)) := by show _ ≤ _; rw [← hz]; have := Hlo.out; omega
  have hx1 := hx0
  have lx : xs.length ≤ 900 := Nat.le_trans (canon_len_of ten_pos cx hn) hK
  clear T4 V4 hn hz cx Hz Hhi Hlo Q1 Q3
  go_wp2
  go_loopw [4, 5] (fun nv iv wr => ∃ (k : Nat) (i M : Int), iv = .int .i64 i ∧ i = (k : Int) - 1 ∧ k ≤ xs.length ∧ nv = .int .i64 M ∧ M = sgn neg (val 10 (xs.drop k)) ∧ wr = y4) (fun _ iv _ => (RowKit.intOf iv + 1).toNat)
  case atStart => exact ⟨xs.length, _, 0, rfl, rfl, Nat.le_refl _, rfl, by simp [val_nil, sgn], rfl⟩
  case round =>
    obtain ⟨k, i, M, rfl, hi, hk, rfl, hM, rfl⟩ := hrel
    rcases Nat.eq_zero_or_pos k with rfl | hkp
    · obtain rfl : i = -1 := by omega
      have hno : ¬ ((-1 : Int) ≥ 0) := by omega
      have HM := hide hM
      clear hx0 hx1 hi hM
      go_wp2
      go_ret2
      refine ⟨?_, Kx4.out⟩
      have e1 := HM.out
      rw [List.drop_zero, ← Hz2.out] at e1
      rw [Ho.out.1, Ho.out.2, ← e1]
      rfl
    · obtain ⟨j, rfl⟩ : ∃ j, k = j + 1 := ⟨k - 1, by omega⟩
      obtain rfl : i = (j : Int) := by omega
      obtain ⟨b2, o2, eb⟩ := hx0.addr (j := j) (by omega)
      subst eb
      have c2 : wr.cell? ⟨b2, o2 + j, none⟩ = some (.int .i64 ((nth xs j : Nat) : Int)) := hx0.cellAt rfl (by omega)
      have hd9 : nth xs j < 10 := hx0.small.nth (by decide) j
      have dj : (j : Int) < (xs.length : Int) := by omega
      have dge : (j : Int) ≥ 0 := by omega
      have hst := val_drop_step (show j < xs.length by omega)
      have hle := val_drop_le xs j (by omega)
      have h1 := Hhi2.out
      have h2 := Hlo2.out
      obtain ⟨N, hN⟩ : ∃ N, N = val 10 (xs.drop (j + 1)) := ⟨_, rfl⟩
      obtain ⟨S, hS⟩ : ∃ S, S = val 10 (xs.drop j) := ⟨_, rfl⟩
      rw [← hN, ← hS] at hst
      rw [← hS] at hle
      rw [← hN] at hM
      obtain ⟨dd, hdd⟩ : ∃ dd, dd = nth xs j := ⟨_, rfl⟩
      rw [← hdd] at hst hd9 c2
      have HX := hide hx0
      have HS := hide hS
      cases neg
      · have hM' : M = (N : Int) := hM
        have h3 : ((val 10 xs : Nat) : Int) ≤ 9223372036854775807 := h1
        have hw1 : IntKind.i64.wrap (M * 10) = M * 10 := by rw [IntKind.wrap_i64]; omega
        obtain ⟨T, hT⟩ : ∃ T, T = M * 10 := ⟨_, rfl⟩
        rw [← hT] at hw1
        have hw2 : IntKind.i64.wrap (T + (dd : Int)) = T + (dd : Int) := by rw [IntKind.wrap_i64]; omega
        have hSS : T + (dd : Int) = (S : Int) := by omega
        have hT' := hT.symm
        rw [hSS] at hw2
        clear hx0 hx1 hi hst hle hN hS hM hM' h1 h2 h3 hdd hT
        go_wp2
        go_roundw
        case rel => exact ⟨j, _, _, rfl, rfl, by omega, rfl, by rw [← HS.out]; rfl, trivial⟩
        case measure => simp [RowKit.intOf]
      · have hM' : M = -(N : Int) := hM
        have h3 : -9223372036854775808 ≤ -((val 10 xs : Nat) : Int) := h2
        have hw1 : IntKind.i64.wrap (M * 10) = M * 10 := by rw [IntKind.wrap_i64]; omega
        obtain ⟨T, hT⟩ : ∃ T, T = M * 10 := ⟨_, rfl⟩
        rw [← hT] at hw1
        have hw2 : IntKind.i64.wrap (T - (dd : Int)) = T - (dd : Int) := by rw [IntKind.wrap_i64]; omega
        obtain ⟨U, hU⟩ : ∃ U, U = T - (dd : Int) := ⟨_, rfl⟩
        have hSS : U = -(S : Int) := by omega
        rw [← hU] at hw2
        have hT' := hT.symm
        have hU' := hU.symm
        have HSS := hide hSS
        clear hx0 hx1 hi hst hle hN hS hM hM' h1 h2 h3 hdd hT hU hSS
        go_wp2
        go_roundw
        case rel => exact ⟨j, _, _, rfl, rfl, by omega, rfl, by rw [← HS.out]; exact HSS.out, trivial⟩
        case measure => simp [RowKit.intOf]

end Go.Proofs.YtlfbhbeoodmccaaDoor
