/- The reference's Without. -/
import Derived.Test.YtbjolmgobeagoaaGreatDoorLnRSmall
namespace Go.Proofs.YtbjolmgobeagoaaGreatDoor
set_option linter.unusedVariables false
set_option linter.unusedSimpArgs false
set_option maxRecDepth 100000
open Go Go.RowKit Go.Shelf Go.Lib

def woL (x : Int) (l : Ps) : Ps := l.filter fun p => decide (p.1 ≠ x)
theorem wo_step {M : List Pt} {i : Nat} {m : Pt} {x : Int} (h : M[i]? = some m) : woL x (ps (M.take (i + 1))) = woL x (ps (M.take i)) ++ (if m.1 = x then [] else [pt m]) := by
  rw [ps_take_step h]
  unfold woL
  rw [List.filter_append]
  congr 1
  by_cases e : m.1 = x <;> simp [pt, e]

set_option maxHeartbeats 8000000 in
theorem rwithoutT_calls {K : Nat} {w : World} {v : Value} {c : Int} {M : List Pt} (h : RTerm w v c M) (x : Int) (hc : c.natAbs < 10 ^ K) (hb : BndT K (ps M)) (hl : M.length ≤ 50) (hK : K ≤ 700) :
    Calls Tryz.prog 39 #[v, .int .i64 x] w fun e w' => RTermE w c (fun l => NF l ∧ ∀ y, cf y l = if y = x then 0 else cf y (ps M)) e w' := by
  obtain ⟨cn, ca, cL, cc, pa, pl, pc, rfl, h1, hr, hg⟩ := h
  obtain ⟨_, _, e, _, _, h3⟩ := hr
  simp only [Value.slice.injEq] at e
  obtain ⟨rfl, rfl, rfl⟩ := e
  generalize hLn : M.length = Ln at *
  have HLN := hide hLn
  have H3 := hide h3
  have HG := hide hg
  have HBD := hide hb
  have tb := ((Thr.new w (.bool cn) (.slice ca cL cc) (.slice pa Ln pc) 35).alloc (.cells #[.bool false, .slice none 0 0, .slice none 0 0] 35)).alloc (.cells #[.bool cn, .slice ca cL cc, .slice none 0 0] 35)
  have tz := (Thr.new1 w (.cells #[.bool cn, .slice ca cL cc, .slice pa Ln pc] 35) (.bool false) (.slice none 0 0) (.slice none 0 0) 35).alloc (.cells #[.bool cn, .slice ca cL cc, .slice none 0 0] 35)
  have t5 := Thr.new2 w (.cells #[.bool cn, .slice ca cL cc, .slice pa Ln pc] 35) (.cells #[.bool false, .slice none 0 0, .slice none 0 0] 35) (.bool cn) (.slice ca cL cc) (.slice none 0 0) 35
  have hba := bel3 w (.cells #[.bool cn, .slice ca cL cc, .slice pa Ln pc] 35) (.cells #[.bool false, .slice none 0 0, .slice none 0 0] 35) (.cells #[.bool cn, .slice ca cL cc, .slice none 0 0] 35)
  have HCY := hide hc
  have HST : Hid (RJ (w.heap.size + 2) (w.heap.size + 2) (fun W => Thr W w.heap.size (.bool cn) (.slice ca cL cc) (.slice pa Ln pc) 35 ∧ Thr W (w.heap.size + 1) (.bool false) (.slice none 0 0) (.slice none 0 0) 35) c cn ca cL cc (((w.alloc (.cells #[.bool cn, .slice ca cL cc, .slice pa Ln pc] 35)).alloc (.cells #[.bool false, .slice none 0 0, .slice none 0 0] 35)).alloc (.cells #[.bool cn, .slice ca cL cc, .slice none 0 0] 35)) [] none 0) :=
    ⟨t5, h1.below hba, OwnQ.nil _ _, fun m hm => (by cases hm), tb, tz⟩
  generalize hwA : ((w.alloc (.cells #[.bool cn, .slice ca cL cc, .slice pa Ln pc] 35)).alloc (.cells #[.bool false, .slice none 0 0, .slice none 0 0] 35)).alloc (.cells #[.bool cn, .slice ca cL cc, .slice none 0 0] 35) = wA at *
  have HWA := hide hwA
  have HBA := hide hba
  clear hwA tb tz t5 hba h1 h3 hg hLn hb hc
  go_enter Tryz.func39, Tryz.ntmps39
  go_upto_region 2 with fail
  rw [HWA.out]
  go_wp2
  go_loopw [6] (fun iv wr => ∃ (i : Nat) (X : List Pt) (oa : Option Addr) (oc : Nat), i ≤ Ln ∧ iv = .int .i64 (i : Int) ∧ RJ (w.heap.size + 2) (w.heap.size + 2) (fun W => Thr W w.heap.size (.bool cn) (.slice ca cL cc) (.slice pa Ln pc) 35 ∧ Thr W (w.heap.size + 1) (.bool false) (.slice none 0 0) (.slice none 0 0) 35) c cn ca cL cc wr X oa oc ∧ ps X = woL x (ps (M.take i)) ∧ Below w.heap.size w wr) (fun iv _ => Ln - (RowKit.intOf iv).toNat)
  case atStart => exact ⟨0, [], _, _, Nat.zero_le _, rfl, HST.out, by simp [woL, ps], HBA.out⟩
  case round =>
    obtain ⟨i, X, oa, oc, hi, rfl, hj, hps, hbw⟩ := hrel
    obtain ⟨c0, c1, c2, _, _, _⟩ := hj.oth.1.every
    have HJ := hide hj
    have HPS := hide hps
    have HBW := hide hbw
    clear hj hps hbw
    by_cases hlt : i < Ln
    · obtain ⟨⟨vr, neg, mv, z⟩, hm⟩ : ∃ m, M[i]? = some m := ⟨_, List.getElem?_eq_getElem (by rw [HLN.out]; exact hlt)⟩
      obtain ⟨ma, mL, mc, e⟩ := HG.out.sl _ (List.mem_of_getElem? hm)
      simp only at e
      subst e
      obtain ⟨b, o, rfl, hc⟩ := H3.out i _ hm
      have HC : Hid (∀ W, Below w.heap.size w W → CellsP W b (o + i * 3) (vr, neg, .slice ma mL mc, z)) := fun W h => hc.below h
      have hgm := HG.out _ (List.mem_of_getElem? hm)
      have hzb : z.natAbs < 10 ^ K := HBD.out (vr, z) (List.mem_map.2 ⟨_, List.mem_of_getElem? hm, rfl⟩)
      have HRG := hide hgm.1
      have d1 : (i : Int) < (Ln : Int) := by omega
      have d0 : (0 : Int) ≤ (i : Int) := by omega
      have HM := hide hm
      have HXL : Hid (X.length ≤ 50) := by
        have h1 := congrArg List.length HPS.out
        have h2 := List.length_filter_le (fun p : Int × Int => decide (p.1 ≠ x)) (ps (M.take i))
        rw [ps_length, List.length_take] at h2
        rw [ps_length] at h1
        unfold woL at h1
        have h3 := HLN.out
        show _ ≤ _
        omega
      obtain ⟨p0, p1, p2⟩ := HC.out wr HBW.out
      dsimp only at p0 p1 p2
      have HRS := hide hgm.2
      clear hm hc hgm hzb
      by_cases hv : vr = x
      · subst hv
        go_wp2
        go_roundw
        case rel =>
          refine ⟨i + 1, X, _, _, by omega, by go_num, HJ.out, ?_, HBW.out⟩
          rw [wo_step HM.out, if_pos rfl, List.append_nil]
          exact HPS.out
        case measure => simp [RowKit.intOf]; omega
      · have qe : (vr != x) = true := by simp [bne, hv]
        have HV := hide hv
        clear hv
        have HS : Hid (∀ Y : World, Below wr.heap.size wr Y → Y.cell? ⟨w.heap.size, 2, none⟩ = some (.slice (some ⟨b, o, none⟩) Ln pc) ∧ Y.cell? ⟨b, o + i * 3, none⟩ = some (.int .i64 vr) ∧ Y.cell? ⟨b, o + i * 3 + 1, none⟩ = some (.bool neg) ∧ Y.cell? ⟨b, o + i * 3 + 2, none⟩ = some (.slice ma mL mc)) := fun Y hY => by
          obtain ⟨h2, h3, h4⟩ := HC.out Y (bafter HBW.out hY (Nat.le_refl _))
          exact ⟨(HJ.out.oth.1.keep hY).c2, h2, h3, h4⟩
        go_upto_region 6 with fail
        refine wp_region_held_drew (S := fun Y : World => Y.cell? ⟨w.heap.size, 2, none⟩ = some (.slice (some ⟨b, o, none⟩) Ln pc) ∧ Y.cell? ⟨b, o + i * 3, none⟩ = some (.int .i64 vr) ∧ Y.cell? ⟨b, o + i * 3 + 1, none⟩ = some (.bool neg) ∧ Y.cell? ⟨b, o + i * 3 + 2, none⟩ = some (.slice ma mL mc)) (by kernel_rfl) ?_ (fun hHeld => ?_)
        · exact HS.out _ (by (first | exact (Below.refl _ _).drew | exact Below.refl _ _))
        refine takeD (i := 0) (v := ?v1) (some 25) rfl (by kernel_rfl) (by kernel_rfl) (by kernel_rfl) (fun _ _ _ h => h) (Or.inl ⟨by rfl, ?hy1⟩) (by assumption) (by rfl) ?rest1
        case hy1 => first | (intro w hSw; (try dsimp only at hSw); obtain ⟨q0, q1, q2, q3⟩ := hSw; go_simp; done) | (intro w hSw; (try dsimp only at hSw); obtain ⟨q0, q1, q2, q3⟩ := hSw; go_simp; with_reducible rfl)
        try simp only [Act.put, List.setIfInBounds_toArray, List.set_cons_zero, List.set_cons_succ]
        refine takeD (i := 2) (v := ?v2) (some 27) rfl (by kernel_rfl) (by kernel_rfl) (by kernel_rfl) (fun _ _ _ h => h) (Or.inl ⟨by rfl, ?hy2⟩) (by assumption) (by rfl) ?rest2
        case hy2 => first | (intro w hSw; (try dsimp only at hSw); obtain ⟨q0, q1, q2, q3⟩ := hSw; go_simp; done) | (intro w hSw; (try dsimp only at hSw); obtain ⟨q0, q1, q2, q3⟩ := hSw; go_simp; with_reducible rfl)
        try simp only [Act.put, List.setIfInBounds_toArray, List.set_cons_zero, List.set_cons_succ]
        refine takeD (i := 3) (v := ?v3) (some 28) rfl (by kernel_rfl) (by kernel_rfl) (by kernel_rfl) (fun _ _ _ h => h) (Or.inl ⟨by rfl, ?hy3⟩) (by assumption) (by rfl) ?rest3
        case hy3 => first | (intro w hSw; (try dsimp only at hSw); obtain ⟨q0, q1, q2, q3⟩ := hSw; go_simp; done) | (intro w hSw; (try dsimp only at hSw); obtain ⟨q0, q1, q2, q3⟩ := hSw; go_simp; with_reducible rfl)
        try simp only [Act.put, List.setIfInBounds_toArray, List.set_cons_zero, List.set_cons_succ]
        refine takeD (i := 4) (v := ?v4) (some 29) rfl (by kernel_rfl) (by kernel_rfl) (by kernel_rfl) (fun _ _ _ h => h) (Or.inl ⟨by rfl, ?hy4⟩) (by assumption) (by rfl) ?rest4
        case hy4 => first | (intro w hSw; (try dsimp only at hSw); obtain ⟨q0, q1, q2, q3⟩ := hSw; go_simp; done) | (intro w hSw; (try dsimp only at hSw); obtain ⟨q0, q1, q2, q3⟩ := hSw; go_simp; with_reducible rfl)
        try simp only [Act.put, List.setIfInBounds_toArray, List.set_cons_zero, List.set_cons_succ]
        refine takeD (i := 5) (v := ?v5) (some 30) rfl (by kernel_rfl) (by kernel_rfl) (by kernel_rfl) (fun _ _ _ h => h) (Or.inl ⟨by rfl, ?hy5⟩) (by assumption) (by rfl) ?rest5
        case hy5 => first | (intro w hSw; (try dsimp only at hSw); obtain ⟨q0, q1, q2, q3⟩ := hSw; go_simp; done) | (intro w hSw; (try dsimp only at hSw); obtain ⟨q0, q1, q2, q3⟩ := hSw; go_simp; with_reducible rfl)
        try simp only [Act.put, List.setIfInBounds_toArray, List.set_cons_zero, List.set_cons_succ]
        refine takeD (i := 6) (v := ?v6) (some 31) rfl (by kernel_rfl) (by kernel_rfl) (by kernel_rfl) (fun _ _ _ h => h) (Or.inl ⟨by rfl, ?hy6⟩) (by assumption) (by rfl) ?rest6
        case hy6 => first | (intro w hSw; (try dsimp only at hSw); obtain ⟨q0, q1, q2, q3⟩ := hSw; go_simp; done) | (intro w hSw; (try dsimp only at hSw); obtain ⟨q0, q1, q2, q3⟩ := hSw; go_simp; with_reducible rfl)
        try simp only [Act.put, List.setIfInBounds_toArray, List.set_cons_zero, List.set_cons_succ]
        refine wpAnyH_ready (rs := [1, 7]) (by kernel_rfl) (by simp) ?_
        refine AllReadyH.cons rfl (fun K hK => ?_) (AllReadyH.cons rfl (fun K hK => ?_) AllReadyH.nil)
        · have u0 := (HJ.out.box.keep ((Below.refl _ wr).drew)).c2
          go_simp
          refine hK.out _ _ (HS.out _ ((Below.refl _ _).drew)) (fun hHeld => ?_)
          clear hK K
          try simp only [Act.put, List.setIfInBounds_toArray, List.set_cons_zero, List.set_cons_succ]
          clear u0
          refine wpAnyH_ready (rs := [7]) (by kernel_rfl) (by simp) ?_
          refine AllReadyH.cons rfl (fun K hK => ?_) AllReadyH.nil
          go_simp
          have hbl := bel wr (.cells #[.int .i64 vr, .bool neg, .slice ma mL mc] 79)
          have HB5 : Hid (Below wr.heap.size wr ((wr.alloc (.cells #[.int .i64 vr, .bool neg, .slice ma mL mc] 79)).drew)) := hbl.drew
          have HRL := hide ((row_litQ wr vr neg (.slice ma mL mc) z).below ((Below.refl _ _).drew))
          clear hbl
          generalize hw5 : (wr.alloc (.cells #[.int .i64 vr, .bool neg, .slice ma mL mc] 79)).drew = w5 at *
          clear hw5
          refine hK.out _ _ (HS.out _ HB5.out) (fun hHeld => ?_)
          clear hK K hHeld
          try simp only [Act.put, List.setIfInBounds_toArray, List.set_cons_zero, List.set_cons_succ]
          obtain ⟨v6, w6, hrun6, ho6, hg6, ha6, hk6⟩ := run_appQ w5 (w.heap.size + 2) 33 _ X (HJ.out.own.below HB5.out) _ [((vr, neg, .slice ma mL mc, z) : Pt)] HRL.out (fun m hm => by simp at hm; subst hm; rfl) (by have h1 := HXL.out; simp only [List.length_cons, List.length_nil]; omega) (by have h1 := HJ.out.box.lt; have h2 := HB5.out.size; omega)
          obtain ⟨oa6, oc6, rfl, _, _⟩ := ho6.len
          have hstep := HJ.out.step (p := ((vr, neg, .slice ma mL mc, z) : Pt)) HB5.out ho6 hg6 hk6 ⟨HRG.out, HRS.out.below (bafter HBW.out HB5.out (Nat.le_refl _))⟩ (fun W9 h9 => ⟨(h9 _ (by omega) (HJ.out.own.apart HJ.out.oth.1 (by decide)) HJ.out.oth.1.lt).trans HJ.out.oth.1, (h9 _ (by omega) (HJ.out.own.apart HJ.out.oth.2 (by decide)) HJ.out.oth.2.lt).trans HJ.out.oth.2⟩)
          have HSTEP := hide hstep
          have HBF := hide (hstep.2.2.2 w.heap.size w (by omega) (by omega) HBW.out (Nat.le_refl _))
          have h0 : Below w.heap.size w w6 := (bafter HBW.out HB5.out (Nat.le_refl _)).grown hg6 (Nat.le_trans HBW.out.size HB5.out.size) (fun j hj => Nat.le_trans (by omega) (HJ.out.own.lt hj).1)
          have HS6 : Hid (let Y := w6; Y.cell? ⟨w.heap.size, 2, none⟩ = some (.slice (some ⟨b, o, none⟩) Ln pc) ∧ Y.cell? ⟨b, o + i * 3, none⟩ = some (.int .i64 vr) ∧ Y.cell? ⟨b, o + i * 3 + 1, none⟩ = some (.bool neg) ∧ Y.cell? ⟨b, o + i * 3 + 2, none⟩ = some (.slice ma mL mc)) := by
            have h1 : Thr w6 w.heap.size (.bool cn) (.slice ca cL cc) (.slice (some ⟨b, o, none⟩) Ln pc) 35 := ((hstep.2.2.1 _ (by omega) (HJ.out.own.apart HJ.out.oth.1 (by decide)) HJ.out.oth.1.lt).2).trans HJ.out.oth.1
            obtain ⟨h2, h3, h4⟩ := HC.out w6 h0
            exact ⟨h1.c2, h2, h3, h4⟩
          have HS7 : Hid (let Y := w6.setCell ⟨w.heap.size + 2, 2, none⟩ (.slice oa6 (X ++ [((vr, neg, .slice ma mL mc, z) : Pt)]).length oc6); Y.cell? ⟨w.heap.size, 2, none⟩ = some (.slice (some ⟨b, o, none⟩) Ln pc) ∧ Y.cell? ⟨b, o + i * 3, none⟩ = some (.int .i64 vr) ∧ Y.cell? ⟨b, o + i * 3 + 1, none⟩ = some (.bool neg) ∧ Y.cell? ⟨b, o + i * 3 + 2, none⟩ = some (.slice ma mL mc)) := by
            obtain ⟨h2, h3, h4⟩ := HC.out _ HBF.out
            exact ⟨HSTEP.out.1.oth.1.c2, h2, h3, h4⟩
          obtain ⟨y0, y1, y2, y3, y4, y5⟩ := hstep.2.1.every
          generalize hxl : (X ++ [((vr, neg, .slice ma mL mc, z) : Pt)]).length = xl at *
          have HXL2 := hide hxl
          clear hstep ho6 hg6 ha6 hk6 hxl h0
          refine wpAnyH_ready (rs := [8]) (by kernel_rfl) (by simp) ?_
          refine AllReadyH.cons rfl (fun K hK => ?_) AllReadyH.nil
          refine Lib.wp_append_run _ _ _ _ _ rfl _ _ rfl rfl _ _ hrun6 ?_
          clear hrun6
          refine hK.out _ _ (HS6.out) (fun hHeld => ?_)
          clear hK K
          try simp only [Act.put, List.setIfInBounds_toArray, List.set_cons_zero, List.set_cons_succ]
          refine takeD (i := 9) (v := ?v7) (some 34) rfl (by kernel_rfl) (by kernel_rfl) (by kernel_rfl) (fun _ _ _ h => h) (Or.inl ⟨by rfl, ?hy7⟩) (by assumption) (by rfl) ?rest7
          case hy7 => first | (intro w hSw; (try dsimp only at hSw); obtain ⟨q0, q1, q2, q3⟩ := hSw; go_simp; done) | (intro w hSw; (try dsimp only at hSw); obtain ⟨q0, q1, q2, q3⟩ := hSw; go_simp; with_reducible rfl)
          try simp only [Act.put, List.setIfInBounds_toArray, List.set_cons_zero, List.set_cons_succ]
          refine wpAnyH_ready (rs := [10]) (by kernel_rfl) (by simp) ?_
          refine AllReadyH.cons rfl (fun K hK => ?_) AllReadyH.nil
          go_simp
          refine hK.out _ _ (HS7.out) (fun hHeld => ?_)
          clear hK K hHeld
          try simp only [Act.put, List.setIfInBounds_toArray, List.set_cons_zero, List.set_cons_succ]
          refine wpAnyH_done (by kernel_rfl) ?_ _
          clear y0 y1 y2 y3 y4 y5
          go_wp2
          go_roundw
          case rel =>
            have e9 := HXL2.out
            subst e9
            exact ⟨i + 1, X ++ [((vr, neg, .slice ma mL mc, z) : Pt)], _, _, by omega, by go_num, HSTEP.out.1, by rw [ps_append, HPS.out, wo_step HM.out, if_neg HV.out]; rfl, HBF.out⟩
          case measure => simp [RowKit.intOf]; omega
        · go_simp
          have hbl := bel wr (.cells #[.int .i64 vr, .bool neg, .slice ma mL mc] 79)
          have HB5 : Hid (Below wr.heap.size wr ((wr.alloc (.cells #[.int .i64 vr, .bool neg, .slice ma mL mc] 79)).drew)) := hbl.drew
          have HRL := hide ((row_litQ wr vr neg (.slice ma mL mc) z).below ((Below.refl _ _).drew))
          clear hbl
          generalize hw5 : (wr.alloc (.cells #[.int .i64 vr, .bool neg, .slice ma mL mc] 79)).drew = w5 at *
          clear hw5
          refine hK.out _ _ (HS.out _ HB5.out) (fun hHeld => ?_)
          clear hK K hHeld
          try simp only [Act.put, List.setIfInBounds_toArray, List.set_cons_zero, List.set_cons_succ]
          have u0 := (HJ.out.box.keep HB5.out).c2
          refine wpAnyH_ready (rs := [1]) (by kernel_rfl) (by simp) ?_
          refine AllReadyH.cons rfl (fun K hK => ?_) AllReadyH.nil
          go_simp
          refine hK.out _ _ (HS.out _ HB5.out) (fun hHeld => ?_)
          clear hK K hHeld
          try simp only [Act.put, List.setIfInBounds_toArray, List.set_cons_zero, List.set_cons_succ]
          clear u0
          obtain ⟨v6, w6, hrun6, ho6, hg6, ha6, hk6⟩ := run_appQ w5 (w.heap.size + 2) 33 _ X (HJ.out.own.below HB5.out) _ [((vr, neg, .slice ma mL mc, z) : Pt)] HRL.out (fun m hm => by simp at hm; subst hm; rfl) (by have h1 := HXL.out; simp only [List.length_cons, List.length_nil]; omega) (by have h1 := HJ.out.box.lt; have h2 := HB5.out.size; omega)
          obtain ⟨oa6, oc6, rfl, _, _⟩ := ho6.len
          have hstep := HJ.out.step (p := ((vr, neg, .slice ma mL mc, z) : Pt)) HB5.out ho6 hg6 hk6 ⟨HRG.out, HRS.out.below (bafter HBW.out HB5.out (Nat.le_refl _))⟩ (fun W9 h9 => ⟨(h9 _ (by omega) (HJ.out.own.apart HJ.out.oth.1 (by decide)) HJ.out.oth.1.lt).trans HJ.out.oth.1, (h9 _ (by omega) (HJ.out.own.apart HJ.out.oth.2 (by decide)) HJ.out.oth.2.lt).trans HJ.out.oth.2⟩)
          have HSTEP := hide hstep
          have HBF := hide (hstep.2.2.2 w.heap.size w (by omega) (by omega) HBW.out (Nat.le_refl _))
          have h0 : Below w.heap.size w w6 := (bafter HBW.out HB5.out (Nat.le_refl _)).grown hg6 (Nat.le_trans HBW.out.size HB5.out.size) (fun j hj => Nat.le_trans (by omega) (HJ.out.own.lt hj).1)
          have HS6 : Hid (let Y := w6; Y.cell? ⟨w.heap.size, 2, none⟩ = some (.slice (some ⟨b, o, none⟩) Ln pc) ∧ Y.cell? ⟨b, o + i * 3, none⟩ = some (.int .i64 vr) ∧ Y.cell? ⟨b, o + i * 3 + 1, none⟩ = some (.bool neg) ∧ Y.cell? ⟨b, o + i * 3 + 2, none⟩ = some (.slice ma mL mc)) := by
            have h1 : Thr w6 w.heap.size (.bool cn) (.slice ca cL cc) (.slice (some ⟨b, o, none⟩) Ln pc) 35 := ((hstep.2.2.1 _ (by omega) (HJ.out.own.apart HJ.out.oth.1 (by decide)) HJ.out.oth.1.lt).2).trans HJ.out.oth.1
            obtain ⟨h2, h3, h4⟩ := HC.out w6 h0
            exact ⟨h1.c2, h2, h3, h4⟩
          have HS7 : Hid (let Y := w6.setCell ⟨w.heap.size + 2, 2, none⟩ (.slice oa6 (X ++ [((vr, neg, .slice ma mL mc, z) : Pt)]).length oc6); Y.cell? ⟨w.heap.size, 2, none⟩ = some (.slice (some ⟨b, o, none⟩) Ln pc) ∧ Y.cell? ⟨b, o + i * 3, none⟩ = some (.int .i64 vr) ∧ Y.cell? ⟨b, o + i * 3 + 1, none⟩ = some (.bool neg) ∧ Y.cell? ⟨b, o + i * 3 + 2, none⟩ = some (.slice ma mL mc)) := by
            obtain ⟨h2, h3, h4⟩ := HC.out _ HBF.out
            exact ⟨HSTEP.out.1.oth.1.c2, h2, h3, h4⟩
          obtain ⟨y0, y1, y2, y3, y4, y5⟩ := hstep.2.1.every
          generalize hxl : (X ++ [((vr, neg, .slice ma mL mc, z) : Pt)]).length = xl at *
          have HXL2 := hide hxl
          clear hstep ho6 hg6 ha6 hk6 hxl h0
          refine wpAnyH_ready (rs := [8]) (by kernel_rfl) (by simp) ?_
          refine AllReadyH.cons rfl (fun K hK => ?_) AllReadyH.nil
          refine Lib.wp_append_run _ _ _ _ _ rfl _ _ rfl rfl _ _ hrun6 ?_
          clear hrun6
          refine hK.out _ _ (HS6.out) (fun hHeld => ?_)
          clear hK K
          try simp only [Act.put, List.setIfInBounds_toArray, List.set_cons_zero, List.set_cons_succ]
          refine takeD (i := 9) (v := ?v8) (some 34) rfl (by kernel_rfl) (by kernel_rfl) (by kernel_rfl) (fun _ _ _ h => h) (Or.inl ⟨by rfl, ?hy8⟩) (by assumption) (by rfl) ?rest8
          case hy8 => first | (intro w hSw; (try dsimp only at hSw); obtain ⟨q0, q1, q2, q3⟩ := hSw; go_simp; done) | (intro w hSw; (try dsimp only at hSw); obtain ⟨q0, q1, q2, q3⟩ := hSw; go_simp; with_reducible rfl)
          try simp only [Act.put, List.setIfInBounds_toArray, List.set_cons_zero, List.set_cons_succ]
          refine wpAnyH_ready (rs := [10]) (by kernel_rfl) (by simp) ?_
          refine AllReadyH.cons rfl (fun K hK => ?_) AllReadyH.nil
          go_simp
          refine hK.out _ _ (HS7.out) (fun hHeld => ?_)
          clear hK K hHeld
          try simp only [Act.put, List.setIfInBounds_toArray, List.set_cons_zero, List.set_cons_succ]
          refine wpAnyH_done (by kernel_rfl) ?_ _
          clear y0 y1 y2 y3 y4 y5
          go_wp2
          go_roundw
          case rel =>
            have e9 := HXL2.out
            subst e9
            exact ⟨i + 1, X ++ [((vr, neg, .slice ma mL mc, z) : Pt)], _, _, by omega, by go_num, HSTEP.out.1, by rw [ps_append, HPS.out, wo_step HM.out, if_neg HV.out]; rfl, HBF.out⟩
          case measure => simp [RowKit.intOf]; omega
    · obtain rfl : i = Ln := by omega
      have d1 : ¬ (i : Int) < (i : Int) := by omega
      have HBX : Hid (BndT K (woL x (ps M))) := fun p hp => HBD.out p (List.mem_filter.1 hp).1
      have htz := HJ.out.oth.2
      have HTZ := hide htz
      obtain ⟨x0, x1, x2, _, _, _⟩ := HJ.out.box.every
      have hrt : RTerm wr (.agg #[.bool cn, .slice ca cL cc, .slice oa X.length oc]) (c) X := ⟨_, _, _, _, _, _, _, rfl, HJ.out.num, HJ.out.own.row, HJ.out.good⟩
      have hpx : ps X = woL x (ps M) := by
        rw [HPS.out, List.take_of_length_le (by rw [HLN.out]; omega)]
      have hno := rnormT_calls (K := K) hrt HCY.out (by rw [hpx]; exact HBX.out) (by have h1 := congrArg List.length hpx; have h2 := List.length_filter_le (fun p : Int × Int => decide (p.1 ≠ x)) (ps M); rw [ps_length] at h1 h2; unfold woL at h1; have := HLN.out; omega) (by omega)
      have HPX := hide hpx
      generalize hxl : X.length = xl at *
      clear htz hxl hrt hpx
      go_wp2_with fail
      refine hno.mono ?_
      rintro e w7 ⟨v7, M7, rfl, ht7, ⟨hn7, hc7⟩, hb7⟩
      obtain ⟨fn, fa, fL, fc, ta, tl, tc, rfl⟩ := ht7.form
      have TZ7 := hide (HTZ.out.keep hb7)
      have HB7 := hide (bafter HBW.out hb7 (Nat.le_refl _))
      have HT7 := hide ht7
      have HN7 := hide hn7
      have HC7 := hide hc7
      obtain ⟨z0, z1, z2, f0, f1, f2⟩ := TZ7.out.every
      clear hno ht7 hn7 hc7 hb7 x0 x1 x2 c0 c1 c2
      go_wp2
      refine bodyPost_ret (results_rterm rfl rfl (TZ7.out.put _ _ _)) rfl ?_
      exact ⟨_, M7, rfl, HT7.out.but (TZ7.out.but _ _ _), ⟨HN7.out, fun y => by rw [HC7.out, HPX.out, woL, cf_without]⟩, put3_below HB7.out (by omega) _ _ _⟩

end Go.Proofs.YtbjolmgobeagoaaGreatDoor
