/- The law's own function signed: true. -/
import Derived.Test.YtlfbhbeoodmccaaDoorBigRef
namespace Go.Proofs.YtlfbhbeoodmccaaDoor
set_option linter.unusedVariables false
set_option linter.unusedSimpArgs false
set_option maxRecDepth 100000
open Go Go.RowKit Go.Shelf Go.Lib

theorem Reads.unique {l : List Nat} {a b : Bool} {m n : Nat} (h : Reads l a m) (k : Reads l b n) : a = b ∧ m = n := by
  rcases h with ⟨rfl, h2, h3, h4, rfl, h6⟩ | ⟨rfl, h2, h3, rfl⟩ <;> rcases k with ⟨rfl, k2, k3, k4, rfl, k6⟩ | ⟨rfl, k2, k3, rfl⟩
  · exact ⟨rfl, rfl⟩
  · exact absurd ⟨h2, h3⟩ k2
  · exact absurd ⟨k2, k3⟩ h2
  · exact ⟨rfl, rfl⟩

theorem bparse_reads {s : ByteArray} {neg : Bool} {n : Nat} (hr : Reads (bl s) neg n) (w : World) (hs : s.size ≤ 1000) :
    Calls Tryd.prog 34 #[.string s] w fun e w' => ∃ v, e = .returned (.tuple #[v, .int .i64 0]) ∧ BRes w' v (sgn neg n) ∧ Below w.heap.size w w' := by
  refine (bparse_calls s w hs).mono ?_
  rintro e w' ⟨⟨neg', n', v, rfl, h1, h2⟩ | ⟨_, h1⟩, hb⟩
  · obtain ⟨rfl, rfl⟩ := hr.unique h1
    exact ⟨v, rfl, h2, hb⟩
  · exact absurd hr (h1 _ _)

/-- Three numbers in blocks. -/
def Tri (W : World) (b1 b2 b3 : Nat) (x1 y1 x2 y2 x3 y3 : Value) : Prop := Two W b1 x1 y1 24 ∧ Two W b2 x2 y2 24 ∧ Two W b3 x3 y3 24
theorem Tri.keep {W W' : World} {b1 b2 b3 : Nat} {x1 y1 x2 y2 x3 y3 : Value} (h : Tri W b1 b2 b3 x1 y1 x2 y2 x3 y3) (hb : Below W.heap.size W W') : Tri W' b1 b2 b3 x1 y1 x2 y2 x3 y3 := ⟨h.1.keep hb, h.2.1.keep hb, h.2.2.keep hb⟩
theorem Tri.cells {W : World} {b1 b2 b3 : Nat} {x1 y1 x2 y2 x3 y3 : Value} (h : Tri W b1 b2 b3 x1 y1 x2 y2 x3 y3) :
    W.cell? ⟨b1, 0, none⟩ = some x1 ∧ W.cell? ⟨b1, 1, none⟩ = some y1 ∧ W.cell? ⟨b2, 0, none⟩ = some x2 ∧ W.cell? ⟨b2, 1, none⟩ = some y2 ∧ W.cell? ⟨b3, 0, none⟩ = some x3 ∧ W.cell? ⟨b3, 1, none⟩ = some y3 :=
  ⟨h.1.c0, h.1.c1, h.2.1.c0, h.2.1.c1, h.2.2.c0, h.2.2.c1⟩

theorem reads12 : Reads (bl ⟨#[45, 49, 50]⟩) true 12 :=
  .inl ⟨rfl, by decide, by decide, ⟨by decide, by decide, AllDig.of_mem (by decide)⟩, by decide, by decide⟩

theorem text30 : itoa (-30) = [45, 51, 48] := by
  unfold itoa
  rw [if_pos (by decide)]
  show 45 :: decDigits 30 = _
  rw [decDigits_big (by decide), decDigits_small (by decide)]
  rfl

theorem quo7 : ((-7 : Int) / 2) = -4 := by decide
theorem rem7 : ((-7 : Int) % 2) = 1 := by decide

theorem lt_R1 {z : Int} (h : z.natAbs ≤ 1000) : z.natAbs < R ^ 1 := by
  rw [Nat.pow_one, R_eq]
  omega
theorem lt_D4 {z : Int} (h : z.natAbs ≤ 1000) : z.natAbs < 10 ^ 4 := Nat.lt_of_le_of_lt h (by decide)

set_option maxHeartbeats 4000000 in
theorem msigned_calls (w : World) (htab : TabIs Tryd.prog w "internal/strconv.uint64pow10" .u64 pow10Tab) :
    Calls Tryd.prog 7 #[] w fun e w' => e = .returned (.bool true) ∧ Below w.heap.size w w' := by
  go_enter Tryd.func7, Tryd.ntmps7
  go_wp2_with fail
  refine (bof_calls _ (-7) (by decide) (by decide)).mono ?_
  rintro e w1 ⟨v1, rfl, q1, hb1⟩
  have A1 := hide (q1.arg (lt_R1 (by decide)) (by decide))
  have B1 := hide hb1
  clear q1 hb1
  go_wp2_with fail
  refine (bof_calls _ 2 (by decide) (by decide)).mono ?_
  rintro e w2 ⟨v2, rfl, q2, hb2⟩
  have A2 := hide (q2.arg (lt_R1 (by decide)) (by decide))
  have A1' := hide (A1.out.below hb2)
  have B2 := hide (bafter B1.out hb2 (Nat.le_refl _))
  clear q2 hb2 A1 B1
  go_wp2_with fail
  refine (bdiv_calls A1'.out A2.out (by decide)).mono ?_
  rintro e w3 ⟨q, r, rfl, hq, hr, hb3⟩
  rw [quo7] at hq
  rw [rem7] at hr
  obtain ⟨bq, aq, Lq, cq, rfl⟩ := hq.form
  obtain ⟨br, ar, Lr, cr, rfl⟩ := hr.form
  obtain ⟨t0, t1, hbx⟩ := boxes2 w3 (.bool bq) (.slice aq Lq cq) (.bool br) (.slice ar Lr cr) 24
  have T0 := hide t0
  have T1 := hide t1
  have Hq := hide (hq.below hbx)
  have Hr := hide (hr.below hbx)
  have KB := hide (bafter (bafter B2.out hb3 (Nat.le_refl _)) hbx (Nat.le_refl _))
  clear hq hr t0 t1 hbx hb3 A1' A2 B2
  go_wp2_with fail
  refine (bparse_reads reads12 _ (by decide)).mono ?_
  rintro e w4 ⟨v4, rfl, q4, hb4⟩
  obtain ⟨bn, an, Ln, cn, rfl⟩ := q4.form
  have bx := bel w4 (.cells #[.bool bn, .slice an Ln cn] 24)
  have G0 : Hid (Tri (w4.alloc (.cells #[.bool bn, .slice an Ln cn] 24)).drew w3.heap.size (w3.heap.size + 1) w4.heap.size (.bool bq) (.slice aq Lq cq) (.bool br) (.slice ar Lr cr) (.bool bn) (.slice an Ln cn)) :=
    ⟨((T0.out.keep hb4).keep bx).drew, ((T1.out.keep hb4).keep bx).drew, (Two.new w4 _ _ _).drew⟩
  have Hq0 := hide (((Hq.out.below hb4).below bx).below ((Below.refl _ _).drew))
  have Hr0 := hide (((Hr.out.below hb4).below bx).below ((Below.refl _ _).drew))
  have Hn0 := hide ((q4.below bx).below ((Below.refl _ _).drew))
  have K0 := hide (bafter (bafter KB.out hb4 (Nat.le_refl _)) bx (Nat.le_refl _)).drew
  have Ht0 := hide (tab_keep htab K0.out)
  clear T0 T1 Hq Hr KB q4 hb4 bx htab
  go_wp2
  go_region_held3 (fun w' => w'.cell? ⟨w3.heap.size, 0, none⟩ = some (.bool bq) ∧ w'.cell? ⟨w3.heap.size, 1, none⟩ = some (.slice aq Lq cq) ∧ w'.cell? ⟨w3.heap.size + 1, 0, none⟩ = some (.bool br) ∧ w'.cell? ⟨w3.heap.size + 1, 1, none⟩ = some (.slice ar Lr cr) ∧ w'.cell? ⟨w4.heap.size, 0, none⟩ = some (.bool bn) ∧ w'.cell? ⟨w4.heap.size, 1, none⟩ = some (.slice an Ln cn))
    (first | exact G8.out.cells | exact G7.out.cells | exact G6.out.cells | exact G5.out.cells | exact G4.out.cells | exact G3.out.cells | exact G2.out.cells | exact G1.out.cells | exact G0.out.cells)
    (first
      | (go_at_call 35; have g := G7; clear g; refine (btext_calls (q7.arg (lt_R1 (by decide)) (by decide)) Ht7.out).mono ?_; rintro e x8 ⟨rfl, k8⟩; rw [text30]; have G8 := hide (G7.out.keep k8); have K8 := hide (bafter K7.out k8 (Nat.le_refl _)))
      | (go_at_call 11; have g := G6; clear g; refine (bof_calls _ (-30) (by decide) (by decide)).mono ?_; rintro e x7 ⟨y7, rfl, q7, k7⟩; have G7 := hide (G6.out.keep k7); have K7 := hide (bafter K6.out k7 (Nat.le_refl _)); have Ht7 := hide (tab_keep Ht6.out k7))
      | (go_at_call 12; have g := G5; clear g; refine (same_true Hn5.out (q5.arg (K := 4) (lt_D4 (by decide))) (by decide)).mono ?_; rintro e x6 ⟨rfl, k6⟩; have G6 := hide (G5.out.keep k6); have K6 := hide (bafter K5.out k6 (Nat.le_refl _)); have Ht6 := hide (tab_keep Ht5.out k6))
      | (go_at_call 13; have g := G4; clear g; refine (rof_calls _ (-12) (by decide) (by decide)).mono ?_; rintro e x5 ⟨y5, rfl, q5, k5⟩; have G5 := hide (G4.out.keep k5); have K5 := hide (bafter K4.out k5 (Nat.le_refl _)); have Ht5 := hide (tab_keep Ht4.out k5); have Hn5 := hide (Hn4.out.below k5))
      | (go_at_call 12; have g := G3; clear g; refine (same_true Hr3.out (q3.arg (K := 4) (lt_D4 (by decide))) (by decide)).mono ?_; rintro e x4 ⟨rfl, k4⟩; have G4 := hide (G3.out.keep k4); have K4 := hide (bafter K3.out k4 (Nat.le_refl _)); have Ht4 := hide (tab_keep Ht3.out k4); have Hn4 := hide (Hn3.out.below k4))
      | (go_at_call 13; have g := G2; clear g; refine (rof_calls _ 1 (by decide) (by decide)).mono ?_; rintro e x3 ⟨y3, rfl, q3, k3⟩; have G3 := hide (G2.out.keep k3); have K3 := hide (bafter K2.out k3 (Nat.le_refl _)); have Ht3 := hide (tab_keep Ht2.out k3); have Hn3 := hide (Hn2.out.below k3); have Hr3 := hide (Hr2.out.below k3))
      | (go_at_call 12; have g := G1; clear g; refine (same_true Hq1.out (p1.arg (K := 4) (lt_D4 (by decide))) (by decide)).mono ?_; rintro e x2 ⟨rfl, k2⟩; have G2 := hide (G1.out.keep k2); have K2 := hide (bafter K1.out k2 (Nat.le_refl _)); have Ht2 := hide (tab_keep Ht1.out k2); have Hn2 := hide (Hn1.out.below k2); have Hr2 := hide (Hr1.out.below k2))
      | (go_at_call 13; refine (rof_calls _ (-4) (by decide) (by decide)).mono ?_; rintro e x1 ⟨y1, rfl, p1, k1⟩; have G1 := hide (G0.out.keep k1); have K1 := hide (bafter K0.out k1 (Nat.le_refl _)); have Ht1 := hide (tab_keep Ht0.out k1); have Hn1 := hide (Hn0.out.below k1); have Hr1 := hide (Hr0.out.below k1); have Hq1 := hide (Hq0.out.below k1)))
  go_wp2
  go_ret
  exact ⟨rfl, K8.out⟩

end Go.Proofs.YtlfbhbeoodmccaaDoor
