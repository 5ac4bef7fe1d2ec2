/- The law TextMoves, walked. -/
import Derived.Test.YtjkfnplmnoghlaaDoorTOpened
import Derived.Test.YtjkfnplmnoghlaaDoorTRMov
import Derived.Test.YtjkfnplmnoghlaaDoorTEdits
import Derived.Deep.CutRange
import Derived.Deep.RegionWith
namespace Go.Proofs.YtjkfnplmnoghlaaDoor
set_option linter.unusedVariables false
set_option linter.unusedSimpArgs false
set_option maxRecDepth 100000
open Go Go.RowKit Go.Shelf Go.Lib

theorem mvV_form (r : Option (Int × Int)) : ∃ x y ok, mvV r = .tuple #[.agg #[.int .i64 x, .int .i64 y], .bool ok] := by
  cases r with
  | none => exact ⟨0, 0, false, rfl⟩
  | some s => exact ⟨s.1, s.2, true, rfl⟩

theorem edits_from {W w : World} (hb : Below W.heap.size W w) {v : Value} {L : List Ed} (h : EdsIn W v L) (hL : L.length ≤ 100000) :
    Calls Tryd.prog 26 #[v] w fun e w' => ∃ rv, e = .returned rv ∧ EdsIn w' rv L ∧ Below w.heap.size w w' ∧ Below W.heap.size W w' :=
  (edits_calls w v L (h.below hb) hL).mono fun e w' ⟨rv, h1, h2, h3⟩ => ⟨rv, h1, h2, h3, bafter hb h3 (Nat.le_refl _)⟩
theorem rmoved_from {W w : World} (hb : Below W.heap.size W w) {f t : Int} {v : Value} {L : List Ed} (h : EdsIn W v L) (hL : L.length ≤ 100000) :
    Calls Tryd.prog 25 #[.agg #[.int .i64 f, .int .i64 t], v] w fun e w' => e = .returned (mvV (mvL L (f, t))) ∧ Below w.heap.size w w' ∧ Below W.heap.size W w' :=
  (rmoved_calls w f t v L (h.below hb) hL).mono fun e w' ⟨h1, h2⟩ => ⟨h1, h2, bafter hb h2 (Nat.le_refl _)⟩

set_option maxHeartbeats 8000000 in
theorem textMoves_walk (w : World) (f t : Int) (ao : Option Addr) (cap : Nat) (L : List Ed) (h : EdsIn w (.slice ao L.length cap) L) (hK : Know w) :
    Calls Tryd.prog 6 #[.agg #[.int .i64 f, .int .i64 t], .slice ao L.length cap] w fun e w' => e = .returned (.bool true) ∧ Below w.heap.size w w' := by
  have HK := hide hK
  have H := hide h
  clear hK h
  have hB0 := hide (bel w (.cells #[.int .i64 f, .int .i64 t] 59))
  have n0 := hide (BoxC.new w 59 #[.int .i64 f, .int .i64 t])
  by_cases hl : L.length ≤ 100
  · have d1 : ¬ (L.length : Int) > 100 := by omega
    obtain ⟨x, y, ok, hmv⟩ := mvV_form (mvL L (f, t))
    have HMV := hide hmv
    clear hmv
    go_enter Tryd.func6, Tryd.ntmps6
    go_wp2_with fail
    refine (moved_calls _ f t _ L (H.out.below hB0.out) (by omega)).mono ?_
    rintro e w1 ⟨rfl, hb1⟩
    rw [HMV.out]
    obtain ⟨w2, hw2⟩ : ∃ w2, w1.alloc (.cells #[.int .i64 x, .int .i64 y] 59) = w2 := ⟨_, rfl⟩
    have hb2 : Below w1.heap.size w1 w2 := by rw [← hw2]; exact bel _ _
    have N0 := hide ((n0.out.below hb1).below hb2)
    have n5 : BoxC w2 w1.heap.size 59 #[.int .i64 x, .int .i64 y] := by rw [← hw2]; exact BoxC.new _ _ _
    have N5 := hide n5
    have HE2 := hide (((H.out.below hB0.out).below hb1).below hb2)
    have HB2 := hide (bafter (bafter hB0.out hb1 (by simp)) hb2 (by have := hB0.out.size; have := hb1.size; omega))
    have s0 : w2.cell? ⟨w.heap.size, 0, none⟩ = some (.int .i64 f) := N0.out.cell 0
    have s1 : w2.cell? ⟨w.heap.size, 1, none⟩ = some (.int .i64 t) := N0.out.cell 1
    have HL := hide hl
    have l2 : w.heap.size < w2.heap.size := N0.out.lt
    have l2' : w.heap.size < w2.heap.size + 1 := Nat.lt_succ_of_lt l2
    have l2n : ¬ w.heap.size = w2.heap.size := Nat.ne_of_lt l2
    obtain ⟨b5, hb5⟩ : ∃ b5, w1.heap.size = b5 := ⟨_, rfl⟩
    clear hb1 hb2 n5 n0 hB0
    go_upto_region 4 with fail
    rw [hb5] at N5
    clear hw2 hb5
    go_cut [7, 8] from 19 to 25 (fun s7 s8 wx => ∃ b7, s7 = .pointer (some ⟨b7, 0, none⟩) ∧ s8 = .bool ok ∧ BoxC wx b7 59 #[.int .i64 x, .int .i64 y] ∧ BoxC wx b5 59 #[.int .i64 x, .int .i64 y] ∧ Below w.heap.size w wx)
    case first =>
      go_region_with (first
        | (go_at_call 25; go_must (have g := hb3; clear g; refine (rmoved_from (W := w3) ?_ hy3 (by have := HL.out; omega)).mono ?_; (first | exact Below.refl _ _ | exact (Below.refl _ _).drew | exact ((Below.refl _ _).alloc (Nat.le_refl _) _).drew | exact ((Below.refl _ _).alloc (Nat.le_refl _) _)); rintro e w4 ⟨rfl, hs4, hb4⟩; rw [HMV.out]; (first | (have d7 : BoxC w4 w2.heap.size 59 #[.int .i64 0, .int .i64 0] := d4.below hb4; have e0 : w4.cell? ⟨w2.heap.size, 0, none⟩ = some (.int .i64 0) := d7.cell 0; have e1 : w4.cell? ⟨w2.heap.size, 1, none⟩ = some (.int .i64 0) := d7.cell 1; have e2 := d7.frozen 0; have e3 := d7.frozen 1; have e4 := d7.lt) | (have d6 : BoxC w4 w3.heap.size 59 #[.int .i64 0, .int .i64 0] := BoxC.below (W := (w3.alloc (.cells #[.int .i64 0, .int .i64 0] 59)).drew) (BoxC.new w3 _ _) hs4; have e0 : w4.cell? ⟨w3.heap.size, 0, none⟩ = some (.int .i64 0) := d6.cell 0; have e1 : w4.cell? ⟨w3.heap.size, 1, none⟩ = some (.int .i64 0) := d6.cell 1; have e2 := d6.frozen 0; have e3 := d6.frozen 1; have e4 := d6.lt) | (have d6 : BoxC w4 w3.heap.size 59 #[.int .i64 0, .int .i64 0] := BoxC.below (W := w3.alloc (.cells #[.int .i64 0, .int .i64 0] 59)) (BoxC.new w3 _ _) hs4; have e0 : w4.cell? ⟨w3.heap.size, 0, none⟩ = some (.int .i64 0) := d6.cell 0; have e1 : w4.cell? ⟨w3.heap.size, 1, none⟩ = some (.int .i64 0) := d6.cell 1; have e2 := d6.frozen 0; have e3 := d6.frozen 1; have e4 := d6.lt) | skip)))
        | (go_at_call 26; go_must (refine (edits_from (W := w2) ?_ HE2.out (by have := HL.out; omega)).mono ?_; (first | exact Below.refl _ _ | exact (Below.refl _ _).drew | exact ((Below.refl _ _).alloc (Nat.le_refl _) _).drew | exact ((Below.refl _ _).alloc (Nat.le_refl _) _)); rintro e w3 ⟨rv, rfl, hy3, hs3, hb3⟩; have s2 : w3.cell? ⟨w.heap.size, 0, none⟩ = some (.int .i64 f) := (N0.out.below hb3).cell 0; have s3 : w3.cell? ⟨w.heap.size, 1, none⟩ = some (.int .i64 t) := (N0.out.below hb3).cell 1; have l3 : w.heap.size < w3.heap.size := (N0.out.below hb3).lt; have l3' : w.heap.size < w3.heap.size + 1 := Nat.lt_succ_of_lt l3; have l3n : ¬ w.heap.size = w3.heap.size := Nat.ne_of_lt l3; (first | (have d4 : BoxC w3 w2.heap.size 59 #[.int .i64 0, .int .i64 0] := BoxC.below (W := (w2.alloc (.cells #[.int .i64 0, .int .i64 0] 59)).drew) (BoxC.new w2 _ _) hs3) | (have d4 : BoxC w3 w2.heap.size 59 #[.int .i64 0, .int .i64 0] := BoxC.below (W := w2.alloc (.cells #[.int .i64 0, .int .i64 0] 59)) (BoxC.new w2 _ _) hs3) | skip))))
      all_goals
        have R5 := hide ((N5.out.below hb3).below hb4)
        have RB := hide (bafter (bafter HB2.out hb3 (by have := HB2.out.size; omega)) hb4 (by have := HB2.out.size; have := hb3.size; omega))
        have m1 : b5 ≠ w2.heap.size := Nat.ne_of_lt N5.out.lt
        have m2 : b5 ≠ w3.heap.size := Nat.ne_of_lt (N5.out.below hb3).lt
        have m3 : w.heap.size ≤ w3.heap.size := Nat.le_of_lt l3
        have m4 : w.heap.size ≤ w2.heap.size := Nat.le_of_lt l2
        have m5 : w.heap.size ≤ w4.heap.size := by have := hb4.size; omega
        go_wp2_with fail
        go_meet
        first
          | exact ⟨w2.heap.size, rfl, rfl, (d7.set 0 _).set 1 _, (R5.out.other m1 0 _).other m1 1 _, (RB.out.setCell (p := ⟨w2.heap.size, 0, none⟩) m4 _).setCell (p := ⟨w2.heap.size, 1, none⟩) m4 _⟩
          | exact ⟨w3.heap.size, rfl, rfl, (d6.set 0 _).set 1 _, (R5.out.other m2 0 _).other m2 1 _, (RB.out.setCell (p := ⟨w3.heap.size, 0, none⟩) m3 _).setCell (p := ⟨w3.heap.size, 1, none⟩) m3 _⟩
          | exact ⟨w4.heap.size, rfl, rfl, BoxC.new w4 _ _, R5.out.alloc _, RB.out.alloc m5 _⟩
    case rest =>
      obtain ⟨b7, rfl, rfl, n7, n5, hbx⟩ := hcut
      have M7 := hide n7
      have M5 := hide n5
      have HBX := hide hbx
      clear n7 n5 hbx s0 s1 N0 N5 HE2 HB2
      go_wp2_with fail
      refine (opened_calls _ (HK.out.below HBX.out)).mono ?_
      rintro e w6 ⟨rfl, hb6⟩
      have t0 : w6.cell? ⟨b7, 0, none⟩ = some (.int .i64 x) := (M7.out.below hb6).cell 0
      have t1 : w6.cell? ⟨b7, 1, none⟩ = some (.int .i64 y) := (M7.out.below hb6).cell 1
      have t2 : w6.cell? ⟨b5, 0, none⟩ = some (.int .i64 x) := (M5.out.below hb6).cell 0
      have t3 : w6.cell? ⟨b5, 1, none⟩ = some (.int .i64 y) := (M5.out.below hb6).cell 1
      have HB6 := hide (bafter HBX.out hb6 (by have := HBX.out.size; omega))
      clear hb6
      go_wp2
      go_ret
      exact ⟨by simp, HB6.out⟩
  · have d1 : (L.length : Int) > 100 := by omega
    go_enter Tryd.func6, Tryd.ntmps6
    go_wp2_with fail
    refine (opened_calls _ (HK.out.below hB0.out)).mono ?_
    rintro e w1 ⟨rfl, hb1⟩
    have HB1 := hide (bafter hB0.out hb1 (by simp))
    clear hb1
    go_wp2
    go_ret
    exact ⟨rfl, HB1.out⟩

end Go.Proofs.YtjkfnplmnoghlaaDoor
