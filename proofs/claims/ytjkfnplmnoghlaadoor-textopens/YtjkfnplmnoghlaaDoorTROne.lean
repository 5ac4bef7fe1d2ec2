/- The reference of text: One. -/
import Derived.Test.YtjkfnplmnoghlaaDoorTRef
namespace Go.Proofs.YtjkfnplmnoghlaaDoor
set_option linter.unusedVariables false
set_option linter.unusedSimpArgs false
set_option maxRecDepth 100000
open Go Go.RowKit Go.Shelf Go.Lib

set_option maxHeartbeats 8000000 in
theorem rone_whole (w : World) (T : List Nat) (p u q v : Int) (X : List Nat) (hT : ∀ y ∈ T, y < 256) (hTl : T.length ≤ 1048576) (hX : ∀ y ∈ X, y < 256) (hXl : X.length ≤ 1000000) (hu : u ≤ 9223372036854775807) (hv64 : v ≤ 9223372036854775807) :
    Calls Tryd.prog 31 #[.string (strOf T), chV false p u q v X] w fun e w' => ∃ (r : Int) (NT : List Nat) (d : Ed) (sv : ByteArray), e = .returned (.tuple #[.string sv, .agg #[.int .i64 d.1, .int .i64 d.2.1, .int .i64 d.2.2], .int .i64 r]) ∧ StepR T (false, p, u, q, v, X) r NT d ∧ (r = 0 → sv = strOf NT) ∧ Below w.heap.size w w' := by
  obtain ⟨N, n1, n2⟩ := letters_count hX
  have HN1 := hide n1
  have HN2 := hide n2
  have HT := hide hT
  have HX := hide hX
  have hsT : (strOf T).size = T.length := strOf_size T
  have hsX : (strOf X).size = X.length := strOf_size X
  unfold chV
  obtain ⟨W0, hW0⟩ : ∃ W0, (w.alloc (.cells #[.bool false, .int .i64 p, .int .i64 u, .int .i64 q, .int .i64 v, .string (strOf X)] 82)).alloc (.cells #[.int .i64 0, .int .i64 0, .int .i64 0] 79) = W0 := ⟨_, rfl⟩
  have hb0 : Below w.heap.size w W0 := by rw [← hW0]; exact (bel w _).alloc (by simp) _
  have x1 : BoxC W0 w.heap.size 82 #[.bool false, .int .i64 p, .int .i64 u, .int .i64 q, .int .i64 v, .string (strOf X)] := by rw [← hW0]; exact (BoxC.new w _ _).alloc _
  have x2 : BoxC W0 (w.heap.size + 1) 79 #[.int .i64 0, .int .i64 0, .int .i64 0] := by
    have := BoxC.new (w.alloc (.cells #[.bool false, .int .i64 p, .int .i64 u, .int .i64 q, .int .i64 v, .string (strOf X)] 82)) 79 #[.int .i64 0, .int .i64 0, .int .i64 0]
    rw [← hW0]; simpa using this
  obtain ⟨cx, w1, hconv, hbx, hb1, _⟩ := conv_str W0 X hX
  have HY := hide hbx
  have X1 := hide (x1.below hb1)
  have X2 := hide (x2.below hb1)
  have HB1 := hide (bafter hb0 hb1 (by have := hb0.size; omega))
  have hz : W0.heap.size = w.heap.size + 2 := by rw [← hW0]; simp
  have HZ := hide hz
  rw [hz] at hconv HY
  rw [← hW0] at hconv
  clear hb0 x1 x2 hbx hb1 n1 n2 hT hX hW0 hz
  generalize hsx : strOf X = sX at *
  generalize hst : strOf T = sT at *
  have HSX := hide hsx
  have HST := hide hst
  clear hsx hst
  go_enter Tryd.func31, Tryd.ntmps31
  go_wp2_with fail
  refine (rvalid_calls w1 _ cx X N HY.out.1 HY.out.2.1 HN1.out HN2.out (by omega)).mono ?_
  rintro e w2 ⟨a, er, rfl, hto, hb2⟩
  have htv := told_valid HN1.out HN2.out hto
  have Y1 := hide (X1.out.below hb2)
  have Y2 := hide (X2.out.below hb2)
  have HB2 := hide (bafter HB1.out hb2 (by have := HB1.out.size; omega))
  clear hto hb2 hconv X1 X2 HB1 HY
  rcases htv with ⟨hv, rfl⟩ | ⟨hv, rfl⟩
  rotate_left
  · have HV := hide hv
    clear hv
    have y0 : w2.cell? ⟨w.heap.size + 1, 0, none⟩ = some (.int .i64 0) := Y2.out.cell 0
    have y1 : w2.cell? ⟨w.heap.size + 1, 1, none⟩ = some (.int .i64 0) := Y2.out.cell 1
    have y2 : w2.cell? ⟨w.heap.size + 1, 2, none⟩ = some (.int .i64 0) := Y2.out.cell 2
    have y3 := Y2.out.frozen 0
    have y4 := Y2.out.frozen 1
    have y5 := Y2.out.frozen 2
    have y6 := Y2.out.lt
    have l5 : w.heap.size ≤ w.heap.size + 1 := by omega
    go_wp2
    refine bodyPost_ret (rresults rfl rfl rfl rfl (((Y2.out.set 0 _).set 1 _).set 2 _)) rfl ?_
    exact ⟨10, [], (0, 0, 0), _, rfl, .inl ⟨HV.out, rfl⟩, fun e => absurd e (by decide), ((HB2.out.setCell (p := ⟨w.heap.size + 1, 0, none⟩) l5 _).setCell (p := ⟨w.heap.size + 1, 1, none⟩) l5 _).setCell (p := ⟨w.heap.size + 1, 2, none⟩) l5 _⟩
  have HV := hide hv
  clear hv
  have x0 : w2.cell? ⟨w.heap.size, 0, none⟩ = some (.bool false) := Y1.out.cell 0
  have HER : Hid (EditR T (false, p, u, q, v, X) 0 T.length) := .inr ⟨rfl, rfl, rfl⟩
  have x5 : w2.cell? ⟨w.heap.size, 5, none⟩ = some (.string sX) := Y1.out.cell 5
  have y0 : w2.cell? ⟨w.heap.size + 1, 0, none⟩ = some (.int .i64 0) := Y2.out.cell 0
  have y1 : w2.cell? ⟨w.heap.size + 1, 1, none⟩ = some (.int .i64 0) := Y2.out.cell 1
  have y2 : w2.cell? ⟨w.heap.size + 1, 2, none⟩ = some (.int .i64 0) := Y2.out.cell 2
  have y3 := Y2.out.frozen 0
  have y4 := Y2.out.frozen 1
  have y5 := Y2.out.frozen 2
  have y6 := Y2.out.lt
  have l5 : w.heap.size ≤ w.heap.size + 1 := by omega
  have d9 : ¬ (X.length : Int) > 1048576 := by omega
  have HTX := hide (show strOf (T.take 0 ++ X ++ T.drop T.length) = strOf (T.take 0) ++ strOf X ++ strOf (T.drop T.length) by rw [strOf_app, strOf_app])
  have q1 : ∀ W : World, (Instr.slice 9 (.string sT) none (some (.int .i64 0)) none).run Tryd.prog W = .ok (.string (strOf (T.take 0))) W := fun W => by
    have := run_slice_string_h (P := Tryd.prog) (w := W) 9 (strOf T) Tryd.underlying9 .i64 0 (by omega) (by rw [strOf_size]; omega)
    rw [HST.out] at this
    rw [this, ← HST.out, strOf_cut]
    try simp
  have q2 : ∀ W : World, (Instr.slice 9 (.string sT) (some (.int .i64 (T.length : Int))) none none).run Tryd.prog W = .ok (.string (strOf (T.drop T.length))) W := fun W => by
    have := run_slice_string_l (P := Tryd.prog) (w := W) 9 (strOf T) Tryd.underlying9 .i64 (T.length : Int) (by omega) (by rw [strOf_size]; omega)
    rw [HST.out] at this
    rw [this, ← HST.out, strOf_size, strOf_cut]
    try simp
  have sz1 : (strOf (T.take 0)).size ≤ 1048576 := by rw [strOf_size]; first | (simp; done) | (simp; omega)
  have sz2 : sX.size ≤ 1048576 := by rw [hsX]; omega
  have sz3 : (strOf (T.drop T.length)).size ≤ 1048576 := by rw [strOf_size]; first | (simp; done) | (simp; omega)
  rw [HSX.out] at HTX
  generalize strOf (T.take 0) = sA at *
  generalize strOf (T.drop T.length) = sC at *
  have q3 : ∀ W : World, (Op.stringOp .add sA sX).run Tryd.prog W = .ok (.string (sA ++ sX)) W := fun W => run_string_add_sum W sA sX (by omega)
  have q4 : ∀ W : World, (Op.stringOp .add (sA ++ sX) sC).run Tryd.prog W = .ok (.string (sA ++ sX ++ sC)) W := fun W => run_string_add_sum W (sA ++ sX) sC (by rw [ByteArray.size_append]; omega)
  clear sz1 sz2 sz3
  go_upto_region 14 with fail
  go_region
  all_goals
    go_wp2
    refine bodyPost_ret (rresults rfl rfl rfl rfl (((Y2.out.set 0 _).set 1 _).set 2 _)) rfl ?_
    exact ⟨0, T.take 0 ++ X ++ T.drop T.length, (0, (T.length : Int), (X.length : Int)), _, rfl, .inr ⟨HV.out, 0, T.length, HER.out, .inr ⟨by show T.length - (T.length - 0) + X.length ≤ 1048576; omega, rfl, rfl, rfl⟩⟩, fun _ => HTX.out.symm, (((HB2.out.setCell (p := ⟨w.heap.size + 1, 0, none⟩) l5 _).setCell (p := ⟨w.heap.size + 1, 1, none⟩) l5 _).setCell (p := ⟨w.heap.size + 1, 2, none⟩) l5 _).drew⟩

set_option maxHeartbeats 8000000 in
theorem rone_ranged (w : World) (T : List Nat) (p u q v : Int) (X : List Nat) (hT : ∀ y ∈ T, y < 256) (hTl : T.length ≤ 1048576) (hX : ∀ y ∈ X, y < 256) (hXl : X.length ≤ 1000000) (hu : u ≤ 9223372036854775807) (hv64 : v ≤ 9223372036854775807) :
    Calls Tryd.prog 31 #[.string (strOf T), chV true p u q v X] w fun e w' => ∃ (r : Int) (NT : List Nat) (d : Ed) (sv : ByteArray), e = .returned (.tuple #[.string sv, .agg #[.int .i64 d.1, .int .i64 d.2.1, .int .i64 d.2.2], .int .i64 r]) ∧ StepR T (true, p, u, q, v, X) r NT d ∧ (r = 0 → sv = strOf NT) ∧ Below w.heap.size w w' := by
  obtain ⟨N, n1, n2⟩ := letters_count hX
  have HN1 := hide n1
  have HN2 := hide n2
  have HT := hide hT
  have HX := hide hX
  have hsT : (strOf T).size = T.length := strOf_size T
  have hsX : (strOf X).size = X.length := strOf_size X
  unfold chV
  obtain ⟨W0, hW0⟩ : ∃ W0, (w.alloc (.cells #[.bool true, .int .i64 p, .int .i64 u, .int .i64 q, .int .i64 v, .string (strOf X)] 82)).alloc (.cells #[.int .i64 0, .int .i64 0, .int .i64 0] 79) = W0 := ⟨_, rfl⟩
  have hb0 : Below w.heap.size w W0 := by rw [← hW0]; exact (bel w _).alloc (by simp) _
  have x1 : BoxC W0 w.heap.size 82 #[.bool true, .int .i64 p, .int .i64 u, .int .i64 q, .int .i64 v, .string (strOf X)] := by rw [← hW0]; exact (BoxC.new w _ _).alloc _
  have x2 : BoxC W0 (w.heap.size + 1) 79 #[.int .i64 0, .int .i64 0, .int .i64 0] := by
    have := BoxC.new (w.alloc (.cells #[.bool true, .int .i64 p, .int .i64 u, .int .i64 q, .int .i64 v, .string (strOf X)] 82)) 79 #[.int .i64 0, .int .i64 0, .int .i64 0]
    rw [← hW0]; simpa using this
  obtain ⟨cx, w1, hconv, hbx, hb1, _⟩ := conv_str W0 X hX
  have HY := hide hbx
  have X1 := hide (x1.below hb1)
  have X2 := hide (x2.below hb1)
  have HB1 := hide (bafter hb0 hb1 (by have := hb0.size; omega))
  have hz : W0.heap.size = w.heap.size + 2 := by rw [← hW0]; simp
  have HZ := hide hz
  rw [hz] at hconv HY
  rw [← hW0] at hconv
  clear hb0 x1 x2 hbx hb1 n1 n2 hT hX hW0 hz
  generalize hsx : strOf X = sX at *
  generalize hst : strOf T = sT at *
  have HSX := hide hsx
  have HST := hide hst
  clear hsx hst
  go_enter Tryd.func31, Tryd.ntmps31
  go_wp2_with fail
  refine (rvalid_calls w1 _ cx X N HY.out.1 HY.out.2.1 HN1.out HN2.out (by omega)).mono ?_
  rintro e w2 ⟨a, er, rfl, hto, hb2⟩
  have htv := told_valid HN1.out HN2.out hto
  have Y1 := hide (X1.out.below hb2)
  have Y2 := hide (X2.out.below hb2)
  have HB2 := hide (bafter HB1.out hb2 (by have := HB1.out.size; omega))
  clear hto hb2 hconv X1 X2 HB1 HY
  rcases htv with ⟨hv, rfl⟩ | ⟨hv, rfl⟩
  rotate_left
  · have HV := hide hv
    clear hv
    have y0 : w2.cell? ⟨w.heap.size + 1, 0, none⟩ = some (.int .i64 0) := Y2.out.cell 0
    have y1 : w2.cell? ⟨w.heap.size + 1, 1, none⟩ = some (.int .i64 0) := Y2.out.cell 1
    have y2 : w2.cell? ⟨w.heap.size + 1, 2, none⟩ = some (.int .i64 0) := Y2.out.cell 2
    have y3 := Y2.out.frozen 0
    have y4 := Y2.out.frozen 1
    have y5 := Y2.out.frozen 2
    have y6 := Y2.out.lt
    have l5 : w.heap.size ≤ w.heap.size + 1 := by omega
    go_wp2
    refine bodyPost_ret (rresults rfl rfl rfl rfl (((Y2.out.set 0 _).set 1 _).set 2 _)) rfl ?_
    exact ⟨10, [], (0, 0, 0), _, rfl, .inl ⟨HV.out, rfl⟩, fun e => absurd e (by decide), ((HB2.out.setCell (p := ⟨w.heap.size + 1, 0, none⟩) l5 _).setCell (p := ⟨w.heap.size + 1, 1, none⟩) l5 _).setCell (p := ⟨w.heap.size + 1, 2, none⟩) l5 _⟩
  have HV := hide hv
  clear hv
  have x0 : w2.cell? ⟨w.heap.size, 0, none⟩ = some (.bool true) := Y1.out.cell 0
  obtain ⟨c3, w3, hconv3, hby3, hb3, hz3⟩ := conv_str w2 T HT.out
  rw [HST.out] at hconv3
  have Z1 := hide (Y1.out.below hb3)
  have Z2 := hide (Y2.out.below hb3)
  have HB3 := hide (bafter HB2.out hb3 (by have := HB2.out.size; omega))
  have HY3 := hide hby3
  clear hby3 hb3 hz3
  go_wp2_with fail
  refine (rlines_calls w3 _ c3 T HY3.out.1 (by omega)).mono ?_
  rintro e w4 ⟨rv, rfl, hown, hb4⟩
  have hli := hown.ints
  have V1 := hide (Z1.out.below hb4)
  have V2 := hide (Z2.out.below hb4)
  have HB4 := hide (bafter HB3.out hb4 (by have := HB3.out.size; omega))
  have HLI := hide hli
  clear hown hli hb4 Y1 Y2 HB2 Z1 Z2 HB3 HY3 hconv3 x0
  obtain ⟨c5, w5, hconv5, hby5, hb5, hz5⟩ := conv_str w4 T HT.out
  rw [HST.out] at hconv5
  have U1 := hide (V1.out.below hb5)
  have U2 := hide (V2.out.below hb5)
  have HB5 := hide (bafter HB4.out hb5 (by have := HB4.out.size; omega))
  have HL5 := hide (HLI.out.below hb5)
  have HY5 := hide hby5
  have k1 : w5.cell? ⟨w.heap.size, 1, none⟩ = some (.int .i64 p) := U1.out.cell 1
  have k2 : w5.cell? ⟨w.heap.size, 2, none⟩ = some (.int .i64 u) := U1.out.cell 2
  clear hby5 hb5 hz5 V1 V2 HB4 HLI
  go_wp2_with fail
  refine (roffset_calls w5 _ c5 T rv (linesL T) p u HY5.out HL5.out (by omega) hu).mono ?_
  rintro e w6 ⟨f, rfl, hof, hb6⟩
  obtain ⟨F, rfl, hF⟩ := off_in hof
  have HOF := hide hof
  have T1 := hide (U1.out.below hb6)
  have T2 := hide (U2.out.below hb6)
  have HB6 := hide (bafter HB5.out hb6 (by have := HB5.out.size; omega))
  have HL6 := hide (HL5.out.below hb6)
  clear hof hb6 U1 U2 HB5 HL5 HY5 hconv5 k1 k2
  obtain ⟨c7, w7, hconv7, hby7, hb7, hz7⟩ := conv_str w6 T HT.out
  rw [HST.out] at hconv7
  have S1 := hide (T1.out.below hb7)
  have S2 := hide (T2.out.below hb7)
  have HB7 := hide (bafter HB6.out hb7 (by have := HB6.out.size; omega))
  have HL7 := hide (HL6.out.below hb7)
  have HY7 := hide hby7
  have k1 : w7.cell? ⟨w.heap.size, 3, none⟩ = some (.int .i64 q) := S1.out.cell 3
  have k2 : w7.cell? ⟨w.heap.size, 4, none⟩ = some (.int .i64 v) := S1.out.cell 4
  clear hby7 hb7 hz7 T1 T2 HB6 HL6
  go_wp2_with fail
  refine (roffset_calls w7 _ c7 T rv (linesL T) q v HY7.out HL7.out (by omega) hv64).mono ?_
  rintro e w8 ⟨t, rfl, hot, hb8⟩
  obtain ⟨G0, rfl, hG0⟩ := off_in hot
  have HOT := hide hot
  have R1 := hide (S1.out.below hb8)
  have R2 := hide (S2.out.below hb8)
  have HB8 := hide (bafter HB7.out hb8 (by have := HB7.out.size; omega))
  clear hot hb8 S1 S2 HB7 HL7 HY7 hconv7 k1 k2
  by_cases hlt : G0 < F
  · have HER : Hid (EditR T (true, p, u, q, v, X) F F) := .inl ⟨rfl, _, _, HOF.out, HOT.out, rfl, by omega⟩
    have d0 : (G0 : Int) < (F : Int) := by omega
    clear hlt
    obtain ⟨R, hR⟩ : ∃ R : Nat, T.length - (F - F) + X.length = R := ⟨_, rfl⟩
    have hR1 : (T.length : Int) - ((F : Int) - (F : Int)) + (X.length : Int) = (R : Int) := by omega
    obtain ⟨dd, hdd⟩ : ∃ dd : Int, (F : Int) - (F : Int) = dd := ⟨_, rfl⟩
    obtain ⟨mm, hmm⟩ : ∃ mm : Int, (T.length : Int) - dd = mm := ⟨_, rfl⟩
    have hRm : mm + (X.length : Int) = (R : Int) := by omega
    have w1_ : IntKind.i64.wrap dd = dd := by rw [wrap_i64]; unfold wrap64; omega
    have w2_ : IntKind.i64.wrap mm = mm := by rw [wrap_i64]; unfold wrap64; omega
    have w3_ : IntKind.i64.wrap (R : Int) = (R : Int) := by rw [wrap_i64]; unfold wrap64; omega
    have HR := hide hR
    have x5 : w8.cell? ⟨w.heap.size, 5, none⟩ = some (.string sX) := R1.out.cell 5
    have y0 : w8.cell? ⟨w.heap.size + 1, 0, none⟩ = some (.int .i64 0) := R2.out.cell 0
    have y1 : w8.cell? ⟨w.heap.size + 1, 1, none⟩ = some (.int .i64 0) := R2.out.cell 1
    have y2 : w8.cell? ⟨w.heap.size + 1, 2, none⟩ = some (.int .i64 0) := R2.out.cell 2
    have y3 := R2.out.frozen 0
    have y4 := R2.out.frozen 1
    have y5 := R2.out.frozen 2
    have y6 := R2.out.lt
    have l5 : w.heap.size ≤ w.heap.size + 1 := by omega
    clear hR hR1
    by_cases hbig : 1048576 < R
    · have d9 : (R : Int) > 1048576 := by omega
      have HBIG := hide hbig
      clear hbig
      go_wp2
      refine bodyPost_ret (rresults rfl rfl rfl rfl (((R2.out.set 0 _).set 1 _).set 2 _)) rfl ?_
      exact ⟨3, [], (0, 0, 0), _, rfl, .inr ⟨HV.out, F, F, HER.out, .inl ⟨by have := HR.out; have := HBIG.out; show T.length - (F - F) + X.length > 1048576; omega, rfl⟩⟩, fun e => absurd e (by decide), ((HB8.out.setCell (p := ⟨w.heap.size + 1, 0, none⟩) l5 _).setCell (p := ⟨w.heap.size + 1, 1, none⟩) l5 _).setCell (p := ⟨w.heap.size + 1, 2, none⟩) l5 _⟩
    · have d9 : ¬ (R : Int) > 1048576 := by omega
      have HSM := hide (Nat.le_of_not_lt hbig)
      clear hbig
      have HTX := hide (show strOf (T.take F ++ X ++ T.drop F) = strOf (T.take F) ++ strOf X ++ strOf (T.drop F) by rw [strOf_app, strOf_app])
      have q1 : ∀ W : World, (Instr.slice 9 (.string sT) none (some (.int .i64 (F : Int))) none).run Tryd.prog W = .ok (.string (strOf (T.take F))) W := fun W => by
        have := run_slice_string_h (P := Tryd.prog) (w := W) 9 (strOf T) Tryd.underlying9 .i64 (F : Int) (by omega) (by rw [strOf_size]; omega)
        rw [HST.out] at this
        rw [this, ← HST.out, strOf_cut]
        try simp
      have q2 : ∀ W : World, (Instr.slice 9 (.string sT) (some (.int .i64 (F : Int))) none none).run Tryd.prog W = .ok (.string (strOf (T.drop F))) W := fun W => by
        have := run_slice_string_l (P := Tryd.prog) (w := W) 9 (strOf T) Tryd.underlying9 .i64 (F : Int) (by omega) (by rw [strOf_size]; omega)
        rw [HST.out] at this
        rw [this, ← HST.out, strOf_size, strOf_cut]
        try simp
      have sz1 : (strOf (T.take F)).size ≤ 1048576 := by rw [strOf_size]; first | (simp; done) | (simp; omega)
      have sz2 : sX.size ≤ 1048576 := by rw [hsX]; omega
      have sz3 : (strOf (T.drop F)).size ≤ 1048576 := by rw [strOf_size]; first | (simp; done) | (simp; omega)
      rw [HSX.out] at HTX
      generalize strOf (T.take F) = sA at *
      generalize strOf (T.drop F) = sC at *
      have q3 : ∀ W : World, (Op.stringOp .add sA sX).run Tryd.prog W = .ok (.string (sA ++ sX)) W := fun W => run_string_add_sum W sA sX (by omega)
      have q4 : ∀ W : World, (Op.stringOp .add (sA ++ sX) sC).run Tryd.prog W = .ok (.string (sA ++ sX ++ sC)) W := fun W => run_string_add_sum W (sA ++ sX) sC (by rw [ByteArray.size_append]; omega)
      clear sz1 sz2 sz3
      go_upto_region 14 with fail
      go_region
      all_goals
        go_wp2
        refine bodyPost_ret (rresults rfl rfl rfl rfl (((R2.out.set 0 _).set 1 _).set 2 _)) rfl ?_
        exact ⟨0, T.take F ++ X ++ T.drop F, ((F : Int), (F : Int), (X.length : Int)), _, rfl, .inr ⟨HV.out, F, F, HER.out, .inr ⟨by have := HR.out; have := HSM.out; show T.length - (F - F) + X.length ≤ 1048576; omega, rfl, rfl, rfl⟩⟩, fun _ => HTX.out.symm, (((HB8.out.setCell (p := ⟨w.heap.size + 1, 0, none⟩) l5 _).setCell (p := ⟨w.heap.size + 1, 1, none⟩) l5 _).setCell (p := ⟨w.heap.size + 1, 2, none⟩) l5 _).drew⟩
  · have HER : Hid (EditR T (true, p, u, q, v, X) F G0) := .inl ⟨rfl, _, _, HOF.out, HOT.out, rfl, by omega⟩
    have d0 : ¬ (G0 : Int) < (F : Int) := by omega
    have hFG : F ≤ G0 := by omega
    clear hlt
    obtain ⟨R, hR⟩ : ∃ R : Nat, T.length - (G0 - F) + X.length = R := ⟨_, rfl⟩
    have hR1 : (T.length : Int) - ((G0 : Int) - (F : Int)) + (X.length : Int) = (R : Int) := by omega
    obtain ⟨dd, hdd⟩ : ∃ dd : Int, (G0 : Int) - (F : Int) = dd := ⟨_, rfl⟩
    obtain ⟨mm, hmm⟩ : ∃ mm : Int, (T.length : Int) - dd = mm := ⟨_, rfl⟩
    have hRm : mm + (X.length : Int) = (R : Int) := by omega
    have w1_ : IntKind.i64.wrap dd = dd := by rw [wrap_i64]; unfold wrap64; omega
    have w2_ : IntKind.i64.wrap mm = mm := by rw [wrap_i64]; unfold wrap64; omega
    have w3_ : IntKind.i64.wrap (R : Int) = (R : Int) := by rw [wrap_i64]; unfold wrap64; omega
    have HR := hide hR
    have x5 : w8.cell? ⟨w.heap.size, 5, none⟩ = some (.string sX) := R1.out.cell 5
    have y0 : w8.cell? ⟨w.heap.size + 1, 0, none⟩ = some (.int .i64 0) := R2.out.cell 0
    have y1 : w8.cell? ⟨w.heap.size + 1, 1, none⟩ = some (.int .i64 0) := R2.out.cell 1
    have y2 : w8.cell? ⟨w.heap.size + 1, 2, none⟩ = some (.int .i64 0) := R2.out.cell 2
    have y3 := R2.out.frozen 0
    have y4 := R2.out.frozen 1
    have y5 := R2.out.frozen 2
    have y6 := R2.out.lt
    have l5 : w.heap.size ≤ w.heap.size + 1 := by omega
    clear hR hR1
    by_cases hbig : 1048576 < R
    · have d9 : (R : Int) > 1048576 := by omega
      have HBIG := hide hbig
      clear hbig
      go_wp2
      refine bodyPost_ret (rresults rfl rfl rfl rfl (((R2.out.set 0 _).set 1 _).set 2 _)) rfl ?_
      exact ⟨3, [], (0, 0, 0), _, rfl, .inr ⟨HV.out, F, G0, HER.out, .inl ⟨by have := HR.out; have := HBIG.out; show T.length - (G0 - F) + X.length > 1048576; omega, rfl⟩⟩, fun e => absurd e (by decide), ((HB8.out.setCell (p := ⟨w.heap.size + 1, 0, none⟩) l5 _).setCell (p := ⟨w.heap.size + 1, 1, none⟩) l5 _).setCell (p := ⟨w.heap.size + 1, 2, none⟩) l5 _⟩
    · have d9 : ¬ (R : Int) > 1048576 := by omega
      have HSM := hide (Nat.le_of_not_lt hbig)
      clear hbig
      have HTX := hide (show strOf (T.take F ++ X ++ T.drop G0) = strOf (T.take F) ++ strOf X ++ strOf (T.drop G0) by rw [strOf_app, strOf_app])
      have q1 : ∀ W : World, (Instr.slice 9 (.string sT) none (some (.int .i64 (F : Int))) none).run Tryd.prog W = .ok (.string (strOf (T.take F))) W := fun W => by
        have := run_slice_string_h (P := Tryd.prog) (w := W) 9 (strOf T) Tryd.underlying9 .i64 (F : Int) (by omega) (by rw [strOf_size]; omega)
        rw [HST.out] at this
        rw [this, ← HST.out, strOf_cut]
        try simp
      have q2 : ∀ W : World, (Instr.slice 9 (.string sT) (some (.int .i64 (G0 : Int))) none none).run Tryd.prog W = .ok (.string (strOf (T.drop G0))) W := fun W => by
        have := run_slice_string_l (P := Tryd.prog) (w := W) 9 (strOf T) Tryd.underlying9 .i64 (G0 : Int) (by omega) (by rw [strOf_size]; omega)
        rw [HST.out] at this
        rw [this, ← HST.out, strOf_size, strOf_cut]
        try simp
      have sz1 : (strOf (T.take F)).size ≤ 1048576 := by rw [strOf_size]; first | (simp; done) | (simp; omega)
      have sz2 : sX.size ≤ 1048576 := by rw [hsX]; omega
      have sz3 : (strOf (T.drop G0)).size ≤ 1048576 := by rw [strOf_size]; first | (simp; done) | (simp; omega)
      rw [HSX.out] at HTX
      generalize strOf (T.take F) = sA at *
      generalize strOf (T.drop G0) = sC at *
      have q3 : ∀ W : World, (Op.stringOp .add sA sX).run Tryd.prog W = .ok (.string (sA ++ sX)) W := fun W => run_string_add_sum W sA sX (by omega)
      have q4 : ∀ W : World, (Op.stringOp .add (sA ++ sX) sC).run Tryd.prog W = .ok (.string (sA ++ sX ++ sC)) W := fun W => run_string_add_sum W (sA ++ sX) sC (by rw [ByteArray.size_append]; omega)
      clear sz1 sz2 sz3
      go_upto_region 14 with fail
      go_region
      all_goals
        go_wp2
        refine bodyPost_ret (rresults rfl rfl rfl rfl (((R2.out.set 0 _).set 1 _).set 2 _)) rfl ?_
        exact ⟨0, T.take F ++ X ++ T.drop G0, ((F : Int), (G0 : Int), (X.length : Int)), _, rfl, .inr ⟨HV.out, F, G0, HER.out, .inr ⟨by have := HR.out; have := HSM.out; show T.length - (G0 - F) + X.length ≤ 1048576; omega, rfl, rfl, rfl⟩⟩, fun _ => HTX.out.symm, (((HB8.out.setCell (p := ⟨w.heap.size + 1, 0, none⟩) l5 _).setCell (p := ⟨w.heap.size + 1, 1, none⟩) l5 _).setCell (p := ⟨w.heap.size + 1, 2, none⟩) l5 _).drew⟩

theorem r7one_calls (w : World) (T : List Nat) (rg : Bool) (p u q v : Int) (X : List Nat) (hT : ∀ y ∈ T, y < 256) (hTl : T.length ≤ 1048576) (hX : ∀ y ∈ X, y < 256) (hXl : X.length ≤ 1000000) (hu : u ≤ 9223372036854775807) (hv64 : v ≤ 9223372036854775807) :
    Calls Tryd.prog 31 #[.string (strOf T), chV rg p u q v X] w fun e w' => ∃ (r : Int) (NT : List Nat) (d : Ed) (sv : ByteArray), e = .returned (.tuple #[.string sv, .agg #[.int .i64 d.1, .int .i64 d.2.1, .int .i64 d.2.2], .int .i64 r]) ∧ StepR T (rg, p, u, q, v, X) r NT d ∧ (r = 0 → sv = strOf NT) ∧ Below w.heap.size w w' := by
  cases rg with
  | false => exact rone_whole w T p u q v X hT hTl hX hXl hu hv64
  | true => exact rone_ranged w T p u q v X hT hTl hX hXl hu hv64

end Go.Proofs.YtjkfnplmnoghlaaDoor
