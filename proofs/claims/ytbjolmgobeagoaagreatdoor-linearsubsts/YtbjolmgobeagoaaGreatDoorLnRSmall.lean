/- The reference's Of, Var, IsConst, Add. -/
import Derived.Test.YtbjolmgobeagoaaGreatDoorLnRNorm
namespace Go.Proofs.YtbjolmgobeagoaaGreatDoor
set_option linter.unusedVariables false
set_option linter.unusedSimpArgs false
set_option maxRecDepth 100000
open Go Go.RowKit Go.Shelf Go.Lib

theorem row_nil (W : World) : RowP W (.slice none 0 0) [] := ⟨none, 0, rfl, Nat.le_refl _, by simp [maxLen], fun j m hj => by simp at hj⟩
theorem field_parts (W : World) (a : Bool) (b c : Option Addr) (l k m n : Nat) : (Instr.field 35 (.agg #[.bool a, .slice b l k, .slice c m n]) 1).run Tryz.prog W = .ok (.slice c m n) W := by kernel_rfl
theorem good_nil (W : World) : GoodN W [] := fun m hm => by cases hm

set_option maxHeartbeats 2000000 in
theorem rofT_calls {K : Nat} {w : World} {v : Value} {c : Int} (h : NRes w v c) (hc : c.natAbs < 10 ^ K) (hK : K ≤ 1000) :
    Calls Tryz.prog 25 #[v] w fun e w' => RTermE w c (fun l => l = []) e w' := by
  obtain ⟨neg, a, L, cc, rfl⟩ := h.form
  have t2 := Thr.new1 w (.cells #[.bool neg, .slice a L cc] 32) (.bool false) (.slice none 0 0) (.slice none 0 0) 35
  have hb := ((bel w (.cells #[.bool neg, .slice a L cc] 32)).trans ((bel (w.alloc (.cells #[.bool neg, .slice a L cc] 32)) (.cells #[.bool false, .slice none 0 0, .slice none 0 0] 35)).mono (by simp)))
  have hcall := rnorm_calls ((h.below hb).arg hc) hK
  have T2 := hide t2
  have HB := hide hb
  clear t2 hb h
  go_enter Tryz.func25, Tryz.ntmps25
  go_wp2_with fail
  refine hcall.mono ?_
  rintro e w2 ⟨r2, rfl, q2, hb2⟩
  obtain ⟨b2, a2, L2, k2, rfl⟩ := q2.form
  have TZ' := hide (T2.out.keep hb2)
  obtain ⟨d0, d1, d2, f0, f1, f2⟩ := TZ'.out.every
  have KZ' := hide (bafter HB.out hb2 (Nat.le_refl _))
  have Q2 := hide q2
  clear hb2 hcall q2
  go_wp2
  refine bodyPost_ret (results_rterm rfl rfl (TZ'.out.put _ _ _)) rfl ?_
  exact ⟨_, [], rfl, RTerm.but ⟨_, _, _, _, none, 0, 0, rfl, Q2.out, row_nil _, good_nil _⟩ (TZ'.out.but _ _ _), rfl, put3_below KZ'.out (by omega) _ _ _⟩

set_option maxHeartbeats 2000000 in
theorem rvarT_calls (w : World) (x : Int) (hx : Rng x) :
    Calls Tryz.prog 23 #[.int .i64 x] w fun e w' => RTermE w 0 (fun l => l = [(x, 1)]) e w' := by
  have tz := Thr.new w (.bool false) (.slice none 0 0) (.slice none 0 0) 35
  have hba := bel w (.cells #[.bool false, .slice none 0 0, .slice none 0 0] 35)
  have hof := rof_calls (w.alloc (.cells #[.bool false, .slice none 0 0, .slice none 0 0] 35)) 1 (by omega) (by omega)
  have TZ := hide tz
  have HBA := hide hba
  clear tz hba
  go_enter Tryz.func23, Tryz.ntmps23
  go_wp2_with fail
  refine hof.mono ?_
  rintro e w1 ⟨v1, rfl, hr1, hb1⟩
  obtain ⟨nb, na, nL, nc, rfl⟩ := hr1.form
  have hbl := bel w1 (.cells #[.int .i64 x, .bool nb, .slice na nL nc] 79)
  have TZ2 := hide ((TZ.out.keep hb1).keep hbl)
  have HB2 := hide (bafter (bafter HBA.out hb1 (Nat.le_refl _)) hbl (Nat.le_refl _))
  have HR2 := hide (hr1.below hbl)
  have HROW := hide (row_litQ w1 x nb (.slice na nL nc) 1)
  obtain ⟨d0, d1, d2, f0, f1, f2⟩ := TZ2.out.every
  clear hof hr1 hb1 hbl
  go_wp2
  refine bodyPost_ret (results_rterm rfl rfl (TZ2.out.put _ _ _)) rfl ?_
  refine ⟨_, [(x, nb, .slice na nL nc, 1)], rfl, RTerm.but ⟨_, _, _, _, _, _, _, rfl, nres_zero _, HROW.out, fun m hm => ?_⟩ (TZ2.out.but _ _ _), rfl, put3_below HB2.out (by omega) _ _ _⟩
  simp at hm
  subst hm
  exact ⟨hx, HR2.out⟩

def RIsE (w : World) (M : List Pt) (e : Ending) (w' : World) : Prop := ∃ l : Ps, e = .returned (.bool (decide (l.length = 0))) ∧ NF l ∧ (∀ u, cf u l = cf u (ps M)) ∧ Below w.heap.size w w'
set_option maxHeartbeats 2000000 in
theorem risconst_calls {K : Nat} {w : World} {v : Value} {c : Int} {M : List Pt} (h : RTerm w v c M) (hc : c.natAbs < 10 ^ K) (hb : BndT K (ps M)) (hl : M.length ≤ 100) (hK : K ≤ 700) :
    Calls Tryz.prog 19 #[v] w fun e w' => RIsE w M e w' := by
  obtain ⟨cn, ca, cL, cc, pa, pl, pc, rfl⟩ := h.form
  have hba := bel w (.cells #[.bool cn, .slice ca cL cc, .slice pa pl pc] 35)
  have hno := rnormT_calls (h.below hba) hc hb hl hK
  have HBA := hide hba
  clear hba h hb hc
  go_enter Tryz.func19, Tryz.ntmps19
  go_wp2_with fail
  refine hno.mono ?_
  rintro e w1 ⟨v1, M1, rfl, ht1, ⟨hn1, hc1⟩, hb1⟩
  obtain ⟨_, _, _, _, _, _, _, rfl, _, ⟨_, _, e, _, _, _⟩, _⟩ := ht1
  simp only [Value.slice.injEq] at e
  obtain ⟨rfl, rfl, rfl⟩ := e
  have HN1 := hide hn1
  have HC1 := hide hc1
  have HB1 := hide (bafter HBA.out hb1 (Nat.le_refl _))
  have hdec : (((M1.length : Nat) : Int) == 0) = decide ((ps M1).length = 0) := by
    rw [ps_length]
    by_cases h0 : M1.length = 0
    · simp [h0]
    · rw [decide_eq_false h0, beq_eq_false_iff_ne]
      omega
  have hfp := field_parts w1
  generalize hdv : decide ((ps M1).length = 0) = dv at *
  have HDV := hide hdv
  clear hno hn1 hc1 hb1 hdv
  go_wp2
  go_ret
  exact ⟨ps M1, by rw [HDV.out]; rfl, HN1.out, HC1.out, HB1.out⟩

set_option maxHeartbeats 4000000 in
theorem raddT_calls {K : Nat} {w : World} {u v : Value} {c d : Int} {A B : List Pt} (h : RTerm w u c A) (g : RTerm w v d B) (hc : c.natAbs < 10 ^ K) (hd : d.natAbs < 10 ^ K) (ha : BndT K (ps A)) (hb : BndT K (ps B)) (hla : A.length ≤ 50) (hlb : B.length ≤ 50) (hK : K ≤ 600) :
    Calls Tryz.prog 28 #[u, v] w fun e w' => RTermE w (c + d) (fun l => NF l ∧ ∀ x, cf x l = cf x (ps A) + cf x (ps B)) e w' := by
  obtain ⟨cn, ca, cL, cc, pa, pl, pc, rfl, h1, h2, h3⟩ := id h
  obtain ⟨dn, da, dL, dc, qa, ql, qc, rfl, g1, g2, g3⟩ := id g
  have tb := ((Thr.new w (.bool cn) (.slice ca cL cc) (.slice pa pl pc) 35).alloc (.cells #[.bool dn, .slice da dL dc, .slice qa ql qc] 35)).alloc (.cells #[.bool false, .slice none 0 0, .slice none 0 0] 35)
  have tc := (Thr.new1 w (.cells #[.bool cn, .slice ca cL cc, .slice pa pl pc] 35) (.bool dn) (.slice da dL dc) (.slice qa ql qc) 35).alloc (.cells #[.bool false, .slice none 0 0, .slice none 0 0] 35)
  have tz := Thr.new2 w (.cells #[.bool cn, .slice ca cL cc, .slice pa pl pc] 35) (.cells #[.bool dn, .slice da dL dc, .slice qa ql qc] 35) (.bool false) (.slice none 0 0) (.slice none 0 0) 35
  have hba := bel3 w (.cells #[.bool cn, .slice ca cL cc, .slice pa pl pc] 35) (.cells #[.bool dn, .slice da dL dc, .slice qa ql qc] 35) (.cells #[.bool false, .slice none 0 0, .slice none 0 0] 35)
  generalize hwA : ((w.alloc (.cells #[.bool cn, .slice ca cL cc, .slice pa pl pc] 35)).alloc (.cells #[.bool dn, .slice da dL dc, .slice qa ql qc] 35)).alloc (.cells #[.bool false, .slice none 0 0, .slice none 0 0] 35) = wA at *
  have hadd := rnadd_calls (K := K) ((h1.below hba).arg hc) ((g1.below hba).arg hd) (by omega)
  have HWA := hide hwA
  have TB := hide tb
  have TC := hide tc
  have TZ := hide tz
  have HBA := hide hba
  have HRA := hide h2
  have HRB := hide g2
  have HGA := hide h3
  have HGB := hide g3
  have HBDA := hide ha
  have HBDB := hide hb
  have HCD : Hid ((c + d).natAbs < 10 ^ (K + 1)) := ten_add hc hd
  obtain ⟨c0, c1, c2, _, _, _⟩ := tb.every
  obtain ⟨e0, e1, e2, _, _, _⟩ := tc.every
  clear hwA tb tc tz hba h1 h2 h3 g1 g2 g3 h g ha hb hc hd
  go_enter Tryz.func28, Tryz.ntmps28
  go_upto_region 1 with fail
  rw [HWA.out]
  go_wp2_with fail
  refine hadd.mono ?_
  rintro e w1 ⟨v1, rfl, hr1, hb1⟩
  obtain ⟨nb, na, nL, nc, rfl⟩ := hr1.form
  have hbx := bel w1 (.cells #[.bool nb, .slice na nL nc, .slice none 0 0] 35)
  have t5 := Thr.new w1 (.bool nb) (.slice na nL nc) (.slice none 0 0) 35
  have TB1 := hide ((TB.out.keep hb1).keep hbx)
  have TC1 := hide ((TC.out.keep hb1).keep hbx)
  have TZ1 := hide ((TZ.out.keep hb1).keep hbx)
  have HR1 := hide (hr1.below hbx)
  have hB1 := bafter (bafter HBA.out hb1 (Nat.le_refl _)) hbx (Nat.le_refl _)
  have hs1 : w.heap.size + 2 < w1.heap.size := by have := TZ.out.lt; have := hb1.size; omega
  generalize hwx : w1.alloc (.cells #[.bool nb, .slice na nL nc, .slice none 0 0] 35) = wx at *
  have HWX := hide hwx
  -- the first parts
  obtain ⟨v3, w3, hrun3, ho3, hg3, _, hk3⟩ := run_appQ wx wx.heap.size 33 _ [] (OwnQ.nil _ _) _ A (HRA.out.below hB1) (HGA.out.sl.one) (by simp only [List.length_nil]; omega) (Nat.le_refl _)
  obtain ⟨oa3, oc3, rfl, _, _⟩ := ho3.len
  have hb3 : Below wx.heap.size wx w3 := (Below.refl _ _).grown hg3 (Nat.le_refl _) (fun j hj => by simp [Value.ownBlock] at hj)
  have t53 := t5.keep hb3
  have hbut3 : ButN w1.heap.size w3 (w3.setCell ⟨w1.heap.size, 2, none⟩ (.slice oa3 ([] ++ A).length oc3)) := ⟨t53.noInt, fun k hk => heap_setCell_other w3 ⟨w1.heap.size, 2, none⟩ k _ hk⟩
  have t54 : Thr (w3.setCell ⟨w1.heap.size, 2, none⟩ (.slice oa3 ([] ++ A).length oc3)) w1.heap.size (.bool nb) (.slice na nL nc) (.slice oa3 ([] ++ A).length oc3) 35 := heap_setCell_same w3 w1.heap.size 2 _ _ _ t53
  have hap3 := ho3.apart t53 (by decide)
  have ho4 : OwnQ wx.heap.size (w3.setCell ⟨w1.heap.size, 2, none⟩ (.slice oa3 ([] ++ A).length oc3)) (.slice oa3 ([] ++ A).length oc3) ([] ++ A) := ho3.block (fun j hj => hbut3.same j (fun e => hap3 (by rw [← e]; exact hj)))
  have hB4 : Below w.heap.size w (w3.setCell ⟨w1.heap.size, 2, none⟩ (.slice oa3 ([] ++ A).length oc3)) := (hB1.trans (hb3.mono hB1.size)).setCell (p := ⟨w1.heap.size, 2, none⟩) (by show _ ≤ w1.heap.size; omega) _
  have hsz4 : wx.heap.size ≤ (w3.setCell ⟨w1.heap.size, 2, none⟩ (.slice oa3 ([] ++ A).length oc3)).heap.size := by have := hb3.size; simp; omega
  have keep4 : ∀ b, b ≠ w1.heap.size → b < wx.heap.size → (w3.setCell ⟨w1.heap.size, 2, none⟩ (.slice oa3 ([] ++ A).length oc3)).heap[b]? = wx.heap[b]? := fun b h1 h2 => (hbut3.same b h1).trans (hb3.block b h2)
  have hkr4 : KR wx (w3.setCell ⟨w1.heap.size, 2, none⟩ (.slice oa3 ([] ++ A).length oc3)) := hk3.trans hbut3.kr
  obtain ⟨y0, y1, y2, y3, y4, y5⟩ := t53.every
  obtain ⟨x0, x1, x2, _, _, _⟩ := t5.every
  have q0 := TB1.out.c2
  have hlt : w1.heap.size < wx.heap.size := t5.lt
  have H3A := hide ((TB1.out.keep hb3).c2)
  have TB4 := hide ((keep4 _ (by omega) (by omega)).trans TB1.out : Thr _ w.heap.size (.bool cn) (.slice ca cL cc) (.slice pa pl pc) 35)
  have TC4 := hide ((keep4 _ (by omega) (by omega)).trans TC1.out : Thr _ (w.heap.size + 1) (.bool dn) (.slice da dL dc) (.slice qa ql qc) 35)
  have TZ4 := hide ((keep4 _ (by omega) (by omega)).trans TZ1.out : Thr _ (w.heap.size + 2) (.bool false) (.slice none 0 0) (.slice none 0 0) 35)
  have T54 := hide t54
  have HO4 := hide ho4
  have HB4 := hide hB4
  have HSZ4 := hide hsz4
  have HR4 := hide (HR1.out.kr hkr4)
  generalize hw4 : w3.setCell ⟨w1.heap.size, 2, none⟩ (.slice oa3 ([] ++ A).length oc3) = w4 at *
  have HW4 := hide hw4
  have HLT := hide hlt
  have HS1 := hide hs1
  simp only [List.nil_append] at T54 HO4 hrun3 hw4 HW4
  generalize hAl : A.length = Al at *
  have HAL := hide hAl
  clear hadd hr1 hb1 hbx t5 hB1 hwx ho3 hg3 hk3 hb3 t53 hbut3 t54 hap3 ho4 hB4 hsz4 keep4 hkr4 hw4 hlt hs1 c0 c1 c2 e0 e1 e2 hAl
  go_upto_region 2 with fail
  rw [HWX.out]
  go_upto_region 3 with (at_builtin; go_must (refine Lib.wpList_append_run _ rfl _ _ _ _ rfl _ _ rfl rfl _ _ hrun3 ?_))
  rw [HW4.out]
  clear hrun3 y0 y1 y2 y3 y4 y5 x0 x1 x2 q0
  obtain ⟨v5, w5, hrun5, ho5, hg5, _, hk5⟩ := run_appQ w4 wx.heap.size 33 _ A (by have h9 := HAL.out; subst h9; exact HO4.out) _ B (HRB.out.below HB4.out) (HGB.out.sl.one) (by have := HAL.out; omega) HSZ4.out
  obtain ⟨oa5, oc5, rfl, _, _⟩ := ho5.len
  have hown : ∀ b, b < wx.heap.size → (Value.slice oa3 A.length oc3).ownBlock ≠ some b := fun b hb e => by
    have h9 := HAL.out
    subst h9
    have := (HO4.out.lt e).1
    omega
  have keep5 : ∀ b, b < wx.heap.size → w5.heap[b]? = w4.heap[b]? := fun b hb => hg5.block b (by have := HSZ4.out; omega) (fun e => hown b hb e.symm)
  have t55 : Thr w5 w1.heap.size (.bool nb) (.slice na nL nc) (.slice oa3 Al oc3) 35 := (keep5 _ HLT.out).trans T54.out
  have hbut5 : ButN w1.heap.size w5 (w5.setCell ⟨w1.heap.size, 2, none⟩ (.slice oa5 (A ++ B).length oc5)) := ⟨t55.noInt, fun k hk => heap_setCell_other w5 ⟨w1.heap.size, 2, none⟩ k _ hk⟩
  have t56 : Thr (w5.setCell ⟨w1.heap.size, 2, none⟩ (.slice oa5 (A ++ B).length oc5)) w1.heap.size (.bool nb) (.slice na nL nc) (.slice oa5 (A ++ B).length oc5) 35 := heap_setCell_same w5 w1.heap.size 2 _ _ _ t55
  have hap5 := ho5.apart t55 (by decide)
  have ho6 : OwnQ wx.heap.size (w5.setCell ⟨w1.heap.size, 2, none⟩ (.slice oa5 (A ++ B).length oc5)) (.slice oa5 (A ++ B).length oc5) (A ++ B) := ho5.block (fun j hj => hbut5.same j (fun e => hap5 (by rw [← e]; exact hj)))
  have hB6 : Below w.heap.size w (w5.setCell ⟨w1.heap.size, 2, none⟩ (.slice oa5 (A ++ B).length oc5)) := (HB4.out.grown hg5 HB4.out.size (fun j hj => by
    have h9 := HAL.out
    subst h9
    have := (HO4.out.lt hj).1
    have := HS1.out
    have := HLT.out
    omega)).setCell (p := ⟨w1.heap.size, 2, none⟩) (by have := HS1.out; show _ ≤ w1.heap.size; omega) _
  have TZ6 : Hid (Thr (w5.setCell ⟨w1.heap.size, 2, none⟩ (.slice oa5 (A ++ B).length oc5)) (w.heap.size + 2) (.bool false) (.slice none 0 0) (.slice none 0 0) 35) := ((hbut5.same _ (by have := HS1.out; omega)).trans (keep5 _ (by have := HS1.out; have := HLT.out; omega))).trans TZ4.out
  have hrt : RTerm (w5.setCell ⟨w1.heap.size, 2, none⟩ (.slice oa5 (A ++ B).length oc5)) (.agg #[.bool nb, .slice na nL nc, .slice oa5 (A ++ B).length oc5]) (c + d) (A ++ B) :=
    ⟨_, _, _, _, _, _, _, rfl, (HR4.out.kr hk5).kr hbut5.kr, ho6.row, fun m hm => (List.mem_append.1 hm).elim (fun h => (HGA.out.below hB6) m h) (fun h => (HGB.out.below hB6) m h)⟩
  have hno := rnormT_calls (K := K + 1) hrt HCD.out (fun p hp => by
    rw [ps_append] at hp
    rcases List.mem_append.1 hp with h | h
    · exact ten_up (HBDA.out p h) (by omega)
    · exact ten_up (HBDB.out p h) (by omega)) (by rw [List.length_append]; have := HAL.out; omega) (by omega)
  have HB6 := hide hB6
  obtain ⟨x0, x1, x2, x3, x4, x5⟩ := t55.every
  obtain ⟨y0, y1, y2, _, _, _⟩ := t56.every
  obtain ⟨z0, z1, z2, _, _, _⟩ := T54.out.every
  have q0 := Thr.c2 (W := w4) (b := w.heap.size + 1) (t := 35) TC4.out
  generalize hw6 : w5.setCell ⟨w1.heap.size, 2, none⟩ (.slice oa5 (A ++ B).length oc5) = w6 at *
  have HW6 := hide hw6
  generalize hABl : (A ++ B).length = ABl at *
  have hAl := HAL.out
  rw [hAl] at hrun5
  clear hg5 hk5 hown keep5 t55 hbut5 t56 hap5 ho5 ho6 hB6 hw6 hABl hAl hrt
  go_upto_region 4 with (at_builtin; go_must (refine Lib.wpList_append_run _ rfl _ _ _ _ rfl _ _ rfl rfl _ _ hrun5 ?_))
  rw [HW6.out]
  clear hrun5 x0 x1 x2 x3 x4 x5 z0 z1 z2 q0
  go_wp2_with fail
  refine hno.mono ?_
  rintro e w7 ⟨v7, M7, rfl, ht7, ⟨hn7, hc7⟩, hb7⟩
  obtain ⟨fn, fa, fL, fc, ta, tl, tc, rfl⟩ := ht7.form
  have TZ7 := hide (TZ6.out.keep hb7)
  have HB7 := hide (bafter HB6.out hb7 (Nat.le_refl _))
  have HT7 := hide ht7
  have HN7 := hide hn7
  have HC7 := hide hc7
  obtain ⟨d0, d1, d2, f0, f1, f2⟩ := TZ7.out.every
  clear hno ht7 hn7 hc7 hb7 y0 y1 y2
  go_wp2
  refine bodyPost_ret (results_rterm rfl rfl (TZ7.out.put _ _ _)) rfl ?_
  exact ⟨_, M7, rfl, HT7.out.but (TZ7.out.but _ _ _), ⟨HN7.out, fun x => by rw [HC7.out, ps_append, cf_append]⟩, put3_below HB7.out (by omega) _ _ _⟩

end Go.Proofs.YtbjolmgobeagoaaGreatDoor
