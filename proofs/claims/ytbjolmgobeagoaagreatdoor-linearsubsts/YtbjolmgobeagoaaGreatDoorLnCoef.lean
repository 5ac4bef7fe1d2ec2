/- How often a variable is there: Coef; a sum without it: Without; a variable: Var. -/
import Derived.Test.YtbjolmgobeagoaaGreatDoorLnBnd
namespace Go.Proofs.YtbjolmgobeagoaaGreatDoor
set_option linter.unusedVariables false
set_option linter.unusedSimpArgs false
set_option maxRecDepth 100000
open Go Go.RowKit Go.Shelf Go.Lib

def CoefE (w : World) (z : Int) (e : Ending) (w' : World) : Prop := ∃ rv, e = .returned rv ∧ BRes w' rv z ∧ Below w.heap.size w w'
theorem cf_take_step {M : List Pt} {i : Nat} {m : Pt} (h : M[i]? = some m) (x : Int) : cf x (ps (M.take (i + 1))) = cf x (ps (M.take i)) + (if m.1 = x then m.2.2.2 else 0) := by
  rw [List.take_add_one, h, ps_append, cf_append]
  simp [ps, cf, pt]

set_option maxHeartbeats 4000000 in
theorem coef_calls {k : Nat} {w : World} {v : Value} {c : Int} {M : List Pt} (h : TermA k w v c M) (x : Int) (hk : k ≤ 400000) :
    Calls Tryz.prog 20 #[v, .int .i64 x] w fun e w' => CoefE w (cf x (ps M)) e w' := by
  obtain ⟨cn, ca, cL, cc, pa, pl, pc, rfl, h1, h2, h3, h4, h5, h6, h7⟩ := id h
  have HR := hide h3
  have HG := hide h4
  have HT := hide h
  obtain ⟨_, _, e, _, _, h3⟩ := h3
  simp only [Value.slice.injEq] at e
  obtain ⟨rfl, rfl, rfl⟩ := e
  generalize hLn : M.length = Ln at *
  have HLN := hide hLn
  have tb := ((Thr.new w (.bool cn) (.slice ca cL cc) (.slice pa Ln pc) 27).alloc (.cells #[.bool false, .slice none 0 0] 24)).alloc (.cells #[.bool false, .slice none 0 0] 24)
  have tr := (Two.new1 w (.cells #[.bool cn, .slice ca cL cc, .slice pa Ln pc] 27) (.bool false) (.slice none 0 0) 24).alloc (.cells #[.bool false, .slice none 0 0] 24)
  have ts := Two.new ((w.alloc (.cells #[.bool cn, .slice ca cL cc, .slice pa Ln pc] 27)).alloc (.cells #[.bool false, .slice none 0 0] 24)) (.bool false) (.slice none 0 0) 24
  rw [World.size_alloc, World.size_alloc] at ts
  have hba := bel3 w (.cells #[.bool cn, .slice ca cL cc, .slice pa Ln pc] 27) (.cells #[.bool false, .slice none 0 0] 24) (.cells #[.bool false, .slice none 0 0] 24)
  generalize hwA : ((w.alloc (.cells #[.bool cn, .slice ca cL cc, .slice pa Ln pc] 27)).alloc (.cells #[.bool false, .slice none 0 0] 24)).alloc (.cells #[.bool false, .slice none 0 0] 24) = wA at *
  have HWA := hide hwA
  have H3 := hide h3
  obtain ⟨c0, c1, c2, _, _, _⟩ := tb.every
  have TR := hide tr
  have TS := hide ts
  have HBA := hide hba
  clear hwA tr ts hba h h1 h2 h3 h4 h5 h6 hLn tb
  go_enter Tryz.func20, Tryz.ntmps20
  go_upto_region 2 with fail
  rw [HWA.out]
  go_wp2
  clear c0 c1 c2
  go_loopw [12] (fun iv wr => ∃ (i : Nat) (sn : Bool) (sa : Option Addr) (sL sc : Nat), i ≤ Ln ∧ iv = .int .i64 (i : Int) ∧ Two wr (w.heap.size + 1 + 1) (.bool sn) (.slice sa sL sc) 24 ∧ BRes wr (.agg #[.bool sn, .slice sa sL sc]) (cf x (ps (M.take i))) ∧ Two wr (w.heap.size + 1) (.bool false) (.slice none 0 0) 24 ∧ Below w.heap.size w wr) (fun iv _ => Ln - (RowKit.intOf iv).toNat)
  case atStart => exact ⟨0, _, _, _, _, Nat.zero_le _, rfl, TS.out, ⟨_, rfl, Res.nil _⟩, TR.out, HBA.out⟩
  case round =>
    obtain ⟨i, sn, sa, sL, sc, hi, rfl, hts, hbr, htr, hbw⟩ := hrel
    by_cases hlt : i < Ln
    · obtain ⟨⟨vr, neg, mv, z⟩, hm⟩ : ∃ m, M[i]? = some m := ⟨_, List.getElem?_eq_getElem (by rw [HLN.out]; exact hlt)⟩
      obtain ⟨ma, mL, mc, e⟩ := HG.out.sl _ (List.mem_of_getElem? hm)
      simp only at e
      subst e
      obtain ⟨b, o, rfl, hc⟩ := H3.out i _ hm
      obtain ⟨c0, c1, c2⟩ := hc.below hbw
      dsimp only at c0 c1 c2
      have d1 : (i : Int) < (Ln : Int) := by omega
      have d0 : (0 : Int) ≤ (i : Int) := by omega
      have lb : b < wr.heap.size := block_lt_of_cell c0
      have hbl := bel wr (.cells #[.int .i64 vr, .bool neg, .slice ma mL mc] 89)
      have HM := hide hm
      have HTR := hide (htr.keep hbl)
      have HTS := hide (hts.keep hbl)
      have HBL := hide (bafter hbw hbl (Nat.le_refl _))
      have HBR := hide (hbr.below hbl)
      have hga := (HG.out _ (List.mem_of_getElem? hm)).2.below HBL.out
      have hsb : (cf x (ps (M.take i))).natAbs < R ^ (k + 1000) := by
        refine lt_up (cf_bound (k := k) (l := ps (M.take i)) (fun p hp => HT.out.bnd.1 p ?_) x) ?_
        · unfold ps at hp ⊢
          rw [List.map_take] at hp
          exact List.mem_of_mem_take hp
        · rw [ps_length, List.length_take]
          have := HT.out.len
          omega
      have HADD := hide (badd_calls (HBR.out.arg hsb (by omega)) hga)
      clear hts hbr htr hbw hm hc hga hsb
      generalize hwb : wr.alloc (.cells #[.int .i64 vr, .bool neg, .slice ma mL mc] 89) = wb at *
      have x0 : wb.cell? ⟨wr.heap.size, 0, none⟩ = some (.int .i64 vr) := by rw [← hwb]; exact World.cell?_alloc_mark wr _ _ (0, 0) 0
      have x1 : wb.cell? ⟨wr.heap.size, 1, none⟩ = some (.bool neg) := by rw [← hwb]; exact World.cell?_alloc_mark wr _ _ (0, 0) 1
      have x2 : wb.cell? ⟨wr.heap.size, 2, none⟩ = some (.slice ma mL mc) := by rw [← hwb]; exact World.cell?_alloc_mark wr _ _ (0, 0) 2
      have HWB := hide hwb
      obtain ⟨s0, s1, s2, s3, _, _⟩ := HTS.out.every
      clear hwb hbl
      by_cases hv : vr = x
      · subst hv
        go_upto_region 5 with fail
        rw [HWB.out]
        go_wp2_with fail
        refine HADD.out.mono ?_
        rintro e w4 ⟨v4, rfl, hr4, hb4⟩
        obtain ⟨rb, ra, rL, rc, rfl⟩ := hr4.form
        have HT4 := hide (HTS.out.keep hb4)
        have HTR4 := hide (HTR.out.keep hb4)
        have HB4 := hide (bafter HBL.out hb4 (Nat.le_refl _))
        have HR4 := hide hr4
        obtain ⟨p0, p1, p2, p3, _, _⟩ := HT4.out.every
        clear hr4 hb4 s0 s1 s2 s3 x0 x1 x2
        go_wp2
        go_roundw
        case rel =>
          refine ⟨i + 1, _, _, _, _, by omega, by go_num, HT4.out.put _ _, ?_, HTR4.out.other (by omega) _ _, below_put HB4.out (by omega) _ _⟩
          rw [cf_take_step HM.out, if_pos rfl]
          exact HR4.out.put HT4.out _ _
        case measure => simp [RowKit.intOf]; omega
      · have qe : (vr == x) = false := beq_eq_false_iff_ne.2 hv
        have HV := hide hv
        clear hv HADD
        go_upto_region 5 with fail
        rw [HWB.out]
        go_wp2
        go_roundw
        case rel =>
          refine ⟨i + 1, _, _, _, _, by omega, by go_num, HTS.out, ?_, HTR.out, HBL.out⟩
          rw [cf_take_step HM.out, if_neg HV.out, Int.add_zero]
          exact HBR.out
        case measure => simp [RowKit.intOf]; omega
    · obtain rfl : i = Ln := by omega
      have d1 : ¬ (i : Int) < (i : Int) := by omega
      obtain ⟨s0, s1, _, _, _, _⟩ := hts.every
      obtain ⟨r0, r1, r2, r3, _, _⟩ := htr.every
      have HTR := hide htr
      have HBW := hide hbw
      have HBR := hide hbr
      clear hts htr hbw hbr
      go_wp2
      refine bodyPost_ret (results_big rfl rfl (HTR.out.put _ _)) rfl ?_
      refine ⟨_, rfl, ?_, below_put HBW.out (by omega) _ _⟩
      have h1 := HBR.out
      rw [List.take_of_length_le (by rw [HLN.out]; omega)] at h1
      exact h1.put HTR.out _ _

set_option maxHeartbeats 2000000 in
theorem lvar_calls (w : World) (x : Int) (hx : Rng x) :
    Calls Tryz.prog 22 #[.int .i64 x] w fun e w' => ∃ v nb mv, e = .returned v ∧ TermR w' v 0 [(x, nb, mv, 1)] ∧ Below w.heap.size w w' := by
  have tz := Thr.new w (.bool false) (.slice none 0 0) (.slice none 0 0) 27
  have hba := bel w (.cells #[.bool false, .slice none 0 0, .slice none 0 0] 27)
  have hof := bof_calls (w.alloc (.cells #[.bool false, .slice none 0 0, .slice none 0 0] 27)) 1 (by omega) (by omega)
  have TZ := hide tz
  have HBA := hide hba
  clear tz hba
  go_enter Tryz.func22, Tryz.ntmps22
  go_wp2_with fail
  refine hof.mono ?_
  rintro e w1 ⟨v1, rfl, hr1, hb1⟩
  obtain ⟨nb, na, nL, nc, rfl⟩ := hr1.form
  have hbl := bel w1 (.cells #[.int .i64 x, .bool nb, .slice na nL nc] 89)
  have TZ2 := hide ((TZ.out.keep hb1).keep hbl)
  have HB2 := hide (bafter (bafter HBA.out hb1 (Nat.le_refl _)) hbl (Nat.le_refl _))
  have HR2 := hide (hr1.below hbl)
  have HROW := hide (row_lit w1 x nb (.slice na nL nc) 1)
  obtain ⟨d0, d1, d2, f0, f1, f2⟩ := TZ2.out.every
  clear hof hr1 hb1 hbl
  go_wp2
  refine bodyPost_ret (results_term rfl rfl (TZ2.out.put _ _ _)) rfl ?_
  refine ⟨_, nb, .slice na nL nc, rfl, TermR.but ⟨_, _, _, _, _, _, _, rfl, ⟨_, rfl, Res.nil _⟩, HROW.out, fun m hm => ?_, ?_⟩ (TZ2.out.but _ _ _), put3_below HB2.out (by omega) _ _ _⟩
  · simp at hm
    subst hm
    exact ⟨hx, HR2.out⟩
  · refine ⟨by simp [ps], fun p hp => ?_⟩
    simp [ps, pt] at hp
    subst hp
    show (1 : Int) ≠ 0
    omega

set_option maxHeartbeats 2000000 in
theorem var_tells {W : World} {m : Pt} {x : Int} {B : Nat} (hs : ∃ a L c, m.2.2.1 = .slice a L c) (hc : W.cell? ⟨B, 0, none⟩ = some (.int .i64 x)) :
    Calls Tryz.prog 70 (#[.agg #[.int .i64 m.1, .bool m.2.1, m.2.2.1]] ++ #[.pointer (some ⟨B, 0, none⟩)]) W fun e W' => e = .returned (.bool (decide (m.1 = x))) ∧ Below W.heap.size W W' := by
  obtain ⟨vr, neg, mv, z⟩ := m
  obtain ⟨a, L, c, e⟩ := hs
  simp only at e
  subst e
  dsimp only
  have lb : B < W.heap.size := block_lt_of_cell hc
  have HB := hide (bel W (.cells #[.int .i64 vr, .bool neg, .slice a L c] 89))
  have ed : (vr == x) = decide (vr = x) := rfl
  generalize decide (vr = x) = r at *
  simp only [List.append_toArray, List.cons_append, List.nil_append]
  go_enter Tryz.func70, Tryz.ntmps70
  go_wp2
  go_ret
  exact ⟨rfl, HB.out⟩

set_option maxHeartbeats 4000000 in
theorem without_calls {k : Nat} {w : World} {v : Value} {c : Int} {M : List Pt} (h : TermA k w v c M) (x : Int) (hk : k ≤ 400000) :
    Calls Tryz.prog 38 #[v, .int .i64 x] w fun e w' => TermE w c (fun y => if y = x then 0 else cf y (ps M)) e w' := by
  obtain ⟨cn, ca, cL, cc, pa, pl, pc, rfl⟩ := h.form
  have tb := ((Thr.new w (.bool cn) (.slice ca cL cc) (.slice pa pl pc) 27).alloc (.cells #[.int .i64 x] 3)).alloc (.cells #[.bool false, .slice none 0 0, .slice none 0 0] 27)
  have tz := Thr.new2 w (.cells #[.bool cn, .slice ca cL cc, .slice pa pl pc] 27) (.cells #[.int .i64 x] 3) (.bool false) (.slice none 0 0) (.slice none 0 0) 27
  have hba := bel3 w (.cells #[.bool cn, .slice ca cL cc, .slice pa pl pc] 27) (.cells #[.int .i64 x] 3) (.cells #[.bool false, .slice none 0 0, .slice none 0 0] 27)
  have tx : Uno (((w.alloc (.cells #[.bool cn, .slice ca cL cc, .slice pa pl pc] 27)).alloc (.cells #[.int .i64 x] 3)).alloc (.cells #[.bool false, .slice none 0 0, .slice none 0 0] 27)) (w.heap.size + 1) (.int .i64 x) 3 := by
    have h1 := World.alloc_heap_new (w.alloc (.cells #[.bool cn, .slice ca cL cc, .slice pa pl pc] 27)) (.cells #[.int .i64 x] 3)
    rw [World.size_alloc] at h1
    exact Uno.keep h1 (bel _ _)
  generalize hwA : ((w.alloc (.cells #[.bool cn, .slice ca cL cc, .slice pa pl pc] 27)).alloc (.cells #[.int .i64 x] 3)).alloc (.cells #[.bool false, .slice none 0 0, .slice none 0 0] 27) = wA at *
  have HT := hide h
  have hti := h.tidies (by omega) wA hba
  obtain ⟨c0, c1, c2, _, _, _⟩ := tb.every
  have HWA := hide hwA
  have TB := hide tb
  have TZ := hide tz
  have TX := hide tx
  have HBA := hide hba
  clear hwA tb tz tx hba h
  go_enter Tryz.func38, Tryz.ntmps38
  go_upto_region 1 with fail
  rw [HWA.out]
  go_wp2_with fail
  refine hti.mono ?_
  rintro e w2 ⟨v2, M2, rfl, hr2, hg2, hn2, hc2, hb2⟩
  obtain ⟨sa, sL, sc, rfl⟩ := hr2.shape
  have hl2 : M2.length ≤ 1000 := by have := len_of hn2 hc2; have := HT.out.len; omega
  have hcl := clone_calls hr2 hg2.sl (by omega)
  have HB2 := hide hb2
  have HG2 := hide hg2
  have HN2 := hide hn2
  have HC2 := hide hc2
  clear hr2 hg2 hn2 hc2 hb2 hti c0 c1 c2
  go_wp2_with fail
  refine hcl.mono ?_
  rintro e w3 ⟨v3, rfl, ho3, hb3⟩
  obtain ⟨ta, tL, tc, rfl⟩ := ho3.row.shape
  have hA3 := bafter HB2.out hb3 (Nat.le_refl _)
  have hxl : w.heap.size + 1 < w2.heap.size := Nat.lt_of_lt_of_le TX.out.lt HB2.out.size
  have hdel := del_calls (g := 70) (lb := #[.pointer (some ⟨w.heap.size + 1, 0, none⟩)]) (p := fun m => decide (m.1 = x)) (n₀ := w2.heap.size) (I := fun W => W.cell? ⟨w.heap.size + 1, 0, none⟩ = some (.int .i64 x))
    ⟨enters_of Tryz.func70 (by kernel_rfl) rfl, fun W W' h hf => (hf.1.cell (p := ⟨w.heap.size + 1, 0, none⟩) hxl).trans h, fun W h m hm => var_tells (HG2.out.sl m hm) h⟩ ho3 HG2.out.sl (by omega) (TX.out.keep hA3).c0 hb3.size
  have HB3 := hide hb3
  have HA3 := hide hA3
  clear hcl ho3 hb3 hA3
  go_wp2_with fail
  refine hdel.mono ?_
  rintro e w4 ⟨v4, rfl, ho4, hf4⟩
  obtain ⟨ua, uL, uc, rfl⟩ := ho4.row.shape
  have hA4 : Below wA.heap.size wA w4 := HA3.out.trans (hf4.1.mono HB2.out.size)
  have TB4 := hide (TB.out.keep hA4)
  have hno := bnorm_calls (HT.out.num.below (bafter HBA.out hA4 (Nat.le_refl _)))
  obtain ⟨c0, c1, c2, _, _, _⟩ := TB4.out.every
  have HR4 := hide ho4.row
  have HF4 := hide hf4
  have HA4 := hide hA4
  clear hdel ho4 hf4 hA4
  go_wp2_with fail
  refine hno.mono ?_
  rintro e w5 ⟨v5, rfl, hr5, hb5⟩
  obtain ⟨nb, na, nL, nc, rfl⟩ := hr5.form
  have HR5 := hide hr5
  have HB5 := hide hb5
  have HA5 := hide (bafter HA4.out hb5 (Nat.le_refl _))
  clear hno hr5 hb5 c0 c1 c2
  go_wp2_with fail
  refine made_calls.mono ?_
  rintro e w6 ⟨ra, rl, rc, rfl, hrow6, hb6⟩
  have HA6 := hide (bafter HA5.out hb6 (Nat.le_refl _))
  have TZ6 := hide (TZ.out.keep HA6.out)
  obtain ⟨d0, d1, d2, f0, f1, f2⟩ := TZ6.out.every
  have HTR : Hid (TermR w6 (.agg #[.bool nb, .slice na nL nc, .slice ra rl rc]) c (M2.filter fun m => !decide (m.1 = x))) := by
    refine ⟨_, _, _, _, _, _, _, rfl, HR5.out.below hb6, hrow6 _ _ ((HR4.out.below HB5.out).below hb6), ?_, ?_⟩
    · exact GoodR.below (GoodR.below (fun m hm => ((HG2.out.below HB3.out).k32 HF4.out.2) m (List.mem_filter.1 hm).1) HB5.out) hb6
    · exact ⟨HN2.out.1.sublist ((List.filter_sublist (l := M2)).map pt), fun p hp => by
        obtain ⟨m, hm, rfl⟩ := List.mem_map.1 hp
        exact HN2.out.2 (pt m) (List.mem_map.2 ⟨m, (List.mem_filter.1 hm).1, rfl⟩)⟩
  clear hrow6 hb6
  go_wp2
  refine bodyPost_ret (results_term rfl rfl (TZ6.out.put _ _ _)) rfl ?_
  refine ⟨_, _, rfl, HTR.out.but (TZ6.out.but _ _ _), fun y => ?_, put3_below (bafter HBA.out HA6.out (Nat.le_refl _)) (by omega) _ _ _⟩
  have e1 : ps (M2.filter fun m => !decide (m.1 = x)) = (ps M2).filter fun p => decide (p.1 ≠ x) := by
    unfold ps
    rw [List.filter_map]
    congr 1
    apply List.filter_congr
    intro m hm
    by_cases h0 : m.1 = x <;> simp [pt, h0]
  rw [e1, cf_without, HC2.out]

end Go.Proofs.YtbjolmgobeagoaaGreatDoor
