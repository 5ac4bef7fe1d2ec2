/- So many times a sum: Scale, where the number isn't 0. -/
import Derived.Test.YtbjolmgobeagoaaGreatDoorLnScale0
namespace Go.Proofs.YtbjolmgobeagoaaGreatDoor
set_option linter.unusedVariables false
set_option linter.unusedSimpArgs false
set_option maxRecDepth 100000
open Go Go.RowKit Go.Shelf Go.Lib
attribute [local go_sem] Oper.semAt_some

def ScT (s : Nat) (b1 b2 b3 d1 d2 : Value) (W : World) : Prop := Thr W s b1 b2 b3 27 ∧ Two W (s + 1) d1 d2 24 ∧ Thr W (s + 2) (.bool false) (.slice none 0 0) (.slice none 0 0) 27
theorem ScT.cel {s : Nat} {b1 b2 b3 d1 d2 : Value} {W W' : World} (h : ScT s b1 b2 b3 d1 d2 W) (hc : Cel W W') : ScT s b1 b2 b3 d1 d2 W' := ⟨hc.thr h.1, hc.two h.2.1, hc.thr h.2.2⟩
theorem own_base {n m : Nat} {W : World} {v : Value} {M : List Pt} (h : OwnP n W v M) (hm : m ≤ n) : OwnP m W v M :=
  ⟨⟨h.1.1, h.1.2.imp id (fun ⟨g, cap, cur, hv, h1, h2⟩ => ⟨g, cap, cur, hv, Nat.le_trans hm h1, h2⟩)⟩, h.2⟩

set_option maxHeartbeats 8000000 in
theorem scale_some {k : Nat} {w : World} {v u : Value} {c z : Int} {M : List Pt} (h : TermA k w v c M) (g : BArg w u z) (hz : z ≠ 0) (hk : k ≤ 400000) :
    Calls Tryz.prog 31 #[v, u] w fun e w' => TermE w (c * z) (fun x => cf x (ps M) * z) e w' := by
  obtain ⟨cn, ca, cL, cc, pa, pl, pc, rfl⟩ := h.form
  obtain ⟨dn, dm, n, rfl, hm, hzz⟩ := id g
  clear hzz
  obtain ⟨da, dL, dc, rfl⟩ := hm.shape
  obtain rfl : pl = M.length := by
    obtain ⟨_, _, _, _, _, _, _, e, _, _, ⟨_, _, e2, _⟩, _⟩ := h
    cases e
    cases e2
    rfl
  have hlen := h.len
  generalize hLn : M.length = Ln at *
  have HLN := hide hLn
  have tb := ((Thr.new w (.bool cn) (.slice ca cL cc) (.slice pa Ln pc) 27).alloc (.cells #[.bool dn, .slice da dL dc] 24)).alloc (.cells #[.bool false, .slice none 0 0, .slice none 0 0] 27)
  have tc := (Two.new1 w (.cells #[.bool cn, .slice ca cL cc, .slice pa Ln pc] 27) (.bool dn) (.slice da dL dc) 24).alloc (.cells #[.bool false, .slice none 0 0, .slice none 0 0] 27)
  have tz := Thr.new2 w (.cells #[.bool cn, .slice ca cL cc, .slice pa Ln pc] 27) (.cells #[.bool dn, .slice da dL dc] 24) (.bool false) (.slice none 0 0) (.slice none 0 0) 27
  have hba := bel3 w (.cells #[.bool cn, .slice ca cL cc, .slice pa Ln pc] 27) (.cells #[.bool dn, .slice da dL dc] 24) (.cells #[.bool false, .slice none 0 0, .slice none 0 0] 27)
  have hs := sign_calls (g.below hba)
  have HT := hide h
  have HG := hide g
  have HBA := hide hba
  have HSC : Hid (ScT w.heap.size (.bool cn) (.slice ca cL cc) (.slice pa Ln pc) (.bool dn) (.slice da dL dc) (((w.alloc (.cells #[.bool cn, .slice ca cL cc, .slice pa Ln pc] 27)).alloc (.cells #[.bool dn, .slice da dL dc] 24)).alloc (.cells #[.bool false, .slice none 0 0, .slice none 0 0] 27))) := ⟨tb, tc, tz⟩
  generalize hwA : ((w.alloc (.cells #[.bool cn, .slice ca cL cc, .slice pa Ln pc] 27)).alloc (.cells #[.bool dn, .slice da dL dc] 24)).alloc (.cells #[.bool false, .slice none 0 0, .slice none 0 0] 27) = wA at *
  have HWA := hide hwA
  clear tb tc tz hba hm g h hwA hLn
  refine calls_of_marks Tryz.func31 rfl ?_
  simp only [Tryz.ntmps31, List.size_toArray, List.length_cons, List.length_nil, Nat.reduceAdd, Nat.reduceSub, Array.replicate_succ, Array.replicate_zero, List.push_toArray, List.append_toArray, List.nil_append, List.cons_append]
  go_wp2_with fail
  rw [HWA.out]
  refine hs.mono ?_
  rintro e w1 ⟨rfl, hb1⟩
  have z1 := sg_not0 hz
  generalize sg z = sz at *
  have hsc1 := HSC.out.cel (Cel.of hb1)
  have hb01 := bafter HBA.out hb1 (Nat.le_refl _)
  have hbm := bel w1 (.cells (Builtin.zeroCells zPart.cells Ln) 89)
  have hmk := make_parts w1 Ln (by omega)
  have hmade := own_made (n := w1.heap.size) w1 Ln (Nat.le_refl _) (by unfold maxLen; omega)
  have hszm : (w1.alloc (.cells (Builtin.zeroCells zPart.cells Ln) 89)).heap.size = w1.heap.size + 1 := by simp
  have m1 : (0 : Int) ≤ (Ln : Int) := by omega
  obtain ⟨c0, c1, c2, _, _, _⟩ := hsc1.1.every
  generalize hwm : w1.alloc (.cells (Builtin.zeroCells zPart.cells Ln) 89) = wm at *
  have hbx := bel wm (.cells #[.slice (some ⟨w1.heap.size, 0, none⟩) 0 Ln] 25)
  have hux : Uno (wm.alloc (.cells #[.slice (some ⟨w1.heap.size, 0, none⟩) 0 Ln] 25)) wm.heap.size (.slice (some ⟨w1.heap.size, 0, none⟩) 0 Ln) 25 := World.alloc_heap_new wm _
  have hown2 := hmade.below hbx
  have hsc2 := (hsc1.cel (Cel.of hbm)).cel (Cel.of hbx)
  have hb02 := bafter (bafter hb01 hbm (Nat.le_refl _)) hbx (Nat.le_refl _)
  have hvars := vars_calls (HT.out.below hb02) (by omega)
  obtain ⟨x0, x1, x2, _, _, _⟩ := hsc2.1.every
  have hsz2 : (wm.alloc (.cells #[.slice (some ⟨w1.heap.size, 0, none⟩) 0 Ln] 25)).heap.size = wm.heap.size + 1 := by simp
  generalize hw2 : wm.alloc (.cells #[.slice (some ⟨w1.heap.size, 0, none⟩) 0 Ln] 25) = w2 at *
  have HW2 := hide hw2
  have HSC2 := hide hsc2
  have HOWN2 := hide hown2
  have HUX := hide hux
  have HB02 := hide hb02
  have HB01 := hide hb01
  have HSZM := hide hszm
  have HSZ2 := hide hsz2
  clear hs hb1 hsc1 hb01 hbm hmade hwm hw2 hbx hux hown2 hsc2 hb02 hszm hsz2
  go_upto_region 4 with fail
  rw [HW2.out]
  go_wp2_with fail
  refine hvars.mono ?_
  clear hvars hmk c0 c1 c2
  rintro e w3 ⟨B0, M3, a3, l3, k3, rfl, hu3, hB0, ho3, hg3, hn3, hc3, hb3⟩
  have HU3 := hide hu3
  have HB0 := hide hB0
  have HO3 := hide ho3
  have HG3 := hide hg3
  have HN3 := hide hn3
  have HC3 := hide hc3
  have HB3 := hide hb3
  clear hu3 hB0 ho3 hg3 hn3 hc3 hb3 x0 x1 x2
  go_wp2_with fail
  refine (wpIn_wide (n := 3)).1 ?_
  have HL3 : Hid (M3.length ≤ 1000) := by
    have h1 := len_of HN3.out HC3.out
    have h2 := HLN.out
    show _ ≤ _
    omega
  have hstart : ∃ X oa oc, ScJ wm.heap.size w1.heap.size w2.heap.size w3.heap.size (ScT w.heap.size (.bool cn) (.slice ca cL cc) (.slice pa Ln pc) (.bool dn) (.slice da dL dc)) z B0 (.slice a3 l3 k3) M3 0 w3 X oa oc :=
    ⟨[], _, _, ⟨HUX.out.keep HB3.out, HOWN2.out.below HB3.out, fun g hg => (by
      simp only [Value.ownBlock, Option.some.injEq] at hg
      have := HSZM.out
      have := HSZ2.out
      omega), fun m hm => (by cases hm), by simp [times, ps], HU3.out, HO3.out, fun b hb => (HO3.out.lt hb).2, HG3.out, HSC2.out.cel (Cel.of HB3.out)⟩⟩
  refine range_knownC (gf := 80) (lb := #[.pointer (some ⟨B0, 0, none⟩)]) ?hg (enters_of Tryz.func80 (by kernel_rfl) rfl)
    (vars_hands B0 (.slice a3 l3 k3) M3 HG3.out.sl (by have := HL3.out; omega)) (fun _ => rfl)
    (fun i W => ∃ X oa oc, ScJ wm.heap.size w1.heap.size w2.heap.size w3.heap.size (ScT w.heap.size (.bool cn) (.slice ca cL cc) (.slice pa Ln pc) (.bool dn) (.slice da dL dc)) z B0 (.slice a3 l3 k3) M3 i W X oa oc)
    (fun _ _ _ => False) (fun i W W' ⟨X, oa, oc, hj⟩ hc => ⟨X, oa, oc, hj.cel (fun _ _ h c => h.cel c) hc⟩) (fun _ _ _ _ h _ => h.elim) w.heap.size w (Nat.le_refl _) (Nat.le_trans HB02.out.size HB3.out.size)
    (fun i W ⟨X, oa, oc, hj⟩ => ⟨hj.it.c0, hj.row.row⟩) ⟨hstart, bafter HB02.out HB3.out (Nat.le_refl _)⟩
    (fun i => .cells #[.bool (atP M3 i).2.1, (atP M3 i).2.2.1] 24) (fun _ => rfl) ?a1 ?assign ?body ?done ?stop
  case hg => rfl
  case assign =>
    intro l i B W K hi hB hK
    obtain ⟨ma, mL, mc, hsl⟩ := HG3.out.sl (atP M3 i) (by rw [atP_of (List.getElem?_eq_getElem hi)]; exact List.getElem_mem hi)
    unfold varV
    rw [hsl]
    have HSL := hide hsl
    have HBE := hide hB
    generalize hA1 : (atP M3 i).1 = vr at *
    generalize hA2 : (atP M3 i).2.1 = nb at *
    have HA1 := hide hA1
    have HA2 := hide hA2
    clear hsl hB hA1 hA2
    gi_wp2
    have hsl := HSL.out
    have hB := HBE.out
    have hA1 := HA1.out
    have hA2 := HA2.out
    rw [hB]
    subst hA1
    subst hA2
    rw [← hsl]
    exact hK
  case body =>
    rintro l i B W hi ⟨X, oa, oc, hj⟩ hbw hB hBlt
    obtain ⟨⟨vr, nb, mv, cz⟩, hm⟩ : ∃ m, M3[i]? = some m := ⟨_, List.getElem?_eq_getElem hi⟩
    obtain ⟨ma, mL, mc, e⟩ := HG3.out.sl _ (List.mem_of_getElem? hm)
    simp only at e
    subst e
    try dsimp only
    rw [atP_of hm] at hB ⊢
    have HJ := hide hj
    have HBW := hide hbw
    have HM := hide hm
    have HBB : Hid (Two W B (.bool nb) (.slice ma mL mc) 24) := hB
    have HBL := hide hBlt
    have hmem := hj.gd _ (List.mem_of_getElem? hm)
    have hcb : cz.natAbs < R ^ (k + 1000) := by
      have h1 := nf_bnd HN3.out HC3.out HT.out.bnd.1 (vr, cz) (List.mem_map.2 ⟨_, List.mem_of_getElem? hm, rfl⟩)
      exact lt_up h1 (by rw [ps_length]; have := HT.out.len; omega)
    have HMUL := hide (fun (Y : World) (hY : Below W.heap.size W Y) => bmul_calls ((hmem.2.arg hcb (by omega)).below hY) (HG.out.below (bafter hbw hY (Nat.le_refl _))))
    have HRG := hide hmem.1
    have HS : Hid (∀ Y, Below W.heap.size W Y → Y.cell? ⟨B, 0, none⟩ = some (.bool nb) ∧ Y.cell? ⟨B, 1, none⟩ = some (.slice ma mL mc) ∧ Y.cell? ⟨w.heap.size + 1, 0, none⟩ = some (.bool dn) ∧ Y.cell? ⟨w.heap.size + 1, 1, none⟩ = some (.slice da dL dc)) := fun Y hY => ⟨(HBB.out.keep hY).c0, (HBB.out.keep hY).c1, (hj.oth.2.1.keep hY).c0, (hj.oth.2.1.keep hY).c1⟩
    clear hj hbw hm hB hBlt hmem hcb
    gi_wp2
    refine round_any 1 l (by kernel_rfl) (no_defer (by simp)) (by rintro ⟨_, _, h⟩; exact h) (wpAny_of_held (S := fun Y => Y.cell? ⟨B, 0, none⟩ = some (.bool nb) ∧ Y.cell? ⟨B, 1, none⟩ = some (.slice ma mL mc) ∧ Y.cell? ⟨w.heap.size + 1, 0, none⟩ = some (.bool dn) ∧ Y.cell? ⟨w.heap.size + 1, 1, none⟩ = some (.slice da dL dc)) _ _ _ _ ?_)
    have hSS : (fun Y : World => Y.cell? ⟨B, 0, none⟩ = some (.bool nb) ∧ Y.cell? ⟨B, 1, none⟩ = some (.slice ma mL mc) ∧ Y.cell? ⟨w.heap.size + 1, 0, none⟩ = some (.bool dn) ∧ Y.cell? ⟨w.heap.size + 1, 1, none⟩ = some (.slice da dL dc)) W.drew := HS.out _ ((Below.refl _ _).drew)
    refine takeD (i := 1) (v := ?v1) (some 21) rfl (by kernel_rfl) (by kernel_rfl) (by kernel_rfl) (fun _ _ _ h => h) (Or.inl ⟨by rfl, ?hy1⟩) (by assumption) (by rfl) ?rest1
    case hy1 => first | (intro w hSw; (try dsimp only at hSw); obtain ⟨q0, q1, q2, q3⟩ := hSw; go_simp; done) | (intro w hSw; (try dsimp only at hSw); obtain ⟨q0, q1, q2, q3⟩ := hSw; go_simp; with_reducible rfl)
    try simp only [Act.put, List.setIfInBounds_toArray, List.set_cons_zero, List.set_cons_succ]
    refine takeD (i := 2) (v := ?v2) (some 22) rfl (by kernel_rfl) (by kernel_rfl) (by kernel_rfl) (fun _ _ _ h => h) (Or.inl ⟨by rfl, ?hy2⟩) (by assumption) (by rfl) ?rest2
    case hy2 => first | (intro w hSw; (try dsimp only at hSw); obtain ⟨q0, q1, q2, q3⟩ := hSw; go_simp; done) | (intro w hSw; (try dsimp only at hSw); obtain ⟨q0, q1, q2, q3⟩ := hSw; go_simp; with_reducible rfl)
    try simp only [Act.put, List.setIfInBounds_toArray, List.set_cons_zero, List.set_cons_succ]
    refine takeD (i := 3) (v := ?v3) (some 23) rfl (by kernel_rfl) (by kernel_rfl) (by kernel_rfl) (fun _ _ _ h => h) (Or.inl ⟨by rfl, ?hy3⟩) (by assumption) (by rfl) ?rest3
    case hy3 => first | (intro w hSw; (try dsimp only at hSw); obtain ⟨q0, q1, q2, q3⟩ := hSw; go_simp; done) | (intro w hSw; (try dsimp only at hSw); obtain ⟨q0, q1, q2, q3⟩ := hSw; go_simp; with_reducible rfl)
    try simp only [Act.put, List.setIfInBounds_toArray, List.set_cons_zero, List.set_cons_succ]
    refine wpAnyH_ready (rs := [0, 4]) (by kernel_rfl) (by simp) ?_
    refine AllReadyH.cons rfl (fun K hK => ?_) (AllReadyH.cons rfl (fun K hK => ?_) AllReadyH.nil)
    · have y0 := (HJ.out.box.keep ((Below.refl _ W).drew)).c0
      go_simp
      refine hK.out _ _ (HS.out _ ((Below.refl _ _).drew)) (fun hHeld => ?_)
      clear hK K
      try simp only [Act.put, List.setIfInBounds_toArray, List.set_cons_zero, List.set_cons_succ]
      clear y0
      refine wpAnyH_ready (rs := [4]) (by kernel_rfl) (by simp) ?_
      refine AllReadyH.cons rfl (fun K hK => ?_) AllReadyH.nil
      go_simp
      refine (HMUL.out _ (by (first | exact (Below.refl _ _).drew | exact Below.refl _ _))).mono ?_
      rintro e w4 ⟨v4, rfl, hr4, hb4⟩
      obtain ⟨rb, ra, rL, rc, rfl⟩ := hr4.form
      have HB4 : Hid (Below W.heap.size W w4) := bafter (by (first | exact (Below.refl _ _).drew | exact Below.refl _ _)) hb4 (Nat.le_refl _)
      have HR4 := hide hr4
      clear hr4 hb4
      go_wp2_with fail
      refine hK.out _ _ (HS.out _ HB4.out) (fun hHeld => ?_)
      clear hK K hSS
      try simp only [Act.put, List.setIfInBounds_toArray, List.set_cons_zero, List.set_cons_succ]
      refine takeD (i := 5) (v := ?v4) (some 25) rfl (by kernel_rfl) (by kernel_rfl) (by kernel_rfl) (fun _ _ _ h => h) (Or.inl ⟨by rfl, ?hy4⟩) (by assumption) (by rfl) ?rest4
      case hy4 => first | (intro w hSw; (try dsimp only at hSw); obtain ⟨q0, q1, q2, q3⟩ := hSw; go_simp; done) | (intro w hSw; (try dsimp only at hSw); obtain ⟨q0, q1, q2, q3⟩ := hSw; go_simp; with_reducible rfl)
      try simp only [Act.put, List.setIfInBounds_toArray, List.set_cons_zero, List.set_cons_succ]
      refine wpAnyH_ready (rs := [6]) (by kernel_rfl) (by simp) ?_
      refine AllReadyH.cons rfl (fun K hK => ?_) AllReadyH.nil
      go_simp
      have hbl := bel w4 (.cells #[.int .i64 vr, .bool rb, .slice ra rL rc] 89)
      have HB5 := hide (bafter HB4.out hbl (Nat.le_refl _))
      have HBL5 := hide hbl
      have HRL := hide (row_lit w4 vr rb (.slice ra rL rc) (cz * z))
      clear hbl
      generalize hw5 : w4.alloc (.cells #[.int .i64 vr, .bool rb, .slice ra rL rc] 89) = w5 at *
      clear hw5
      refine hK.out _ _ (HS.out _ HB5.out) (fun hHeld => ?_)
      clear hK K hHeld
      try simp only [Act.put, List.setIfInBounds_toArray, List.set_cons_zero, List.set_cons_succ]
      obtain ⟨v6, w6, hrun6, ho6, hg6, ha6, hk6⟩ := run_appP w5 w1.heap.size 25 _ X (HJ.out.own.below HB5.out) _ [(vr, rb, .slice ra rL rc, cz * z)] HRL.out (fun m hm => by simp at hm; subst hm; rfl) (by have h1 := congrArg List.length HJ.out.ps; have h2 := HL3.out; simp [ps, times] at h1; simp; omega) (by have h1 := HJ.out.box.lt; have h2 := HB5.out.size; have h3 := HSZM.out; omega)
      obtain ⟨oa6, oc6, rfl, _, _⟩ := ho6.len
      have hstep := HJ.out.step HM.out HB5.out (by have := HBB.out.lt'; have := HBL.out; omega) (by have := HB0.out; have := HSZ2.out; omega) ho6 hg6 ha6 hk6 ⟨HRG.out, HR4.out.below HBL5.out⟩ (fun W9 h9 => ⟨(h9 _ (by have := HUX.out; have := HJ.out.oth.1; intro e; rw [e] at this; exact absurd (HJ.out.box.symm.trans this) (by simp)) (HJ.out.own.apart HJ.out.oth.1 (by decide)) HJ.out.oth.1.lt).trans HJ.out.oth.1, (h9 _ (by have := HJ.out.oth.2.1; intro e; rw [e] at this; exact absurd (HJ.out.box.symm.trans this) (by simp)) (HJ.out.own.apart HJ.out.oth.2.1 (by decide)) HJ.out.oth.2.1.lt').trans HJ.out.oth.2.1, (h9 _ (by have := HJ.out.oth.2.2; intro e; rw [e] at this; exact absurd (HJ.out.box.symm.trans this) (by simp)) (HJ.out.own.apart HJ.out.oth.2.2 (by decide)) HJ.out.oth.2.2.lt).trans HJ.out.oth.2.2⟩)
      have HSTEP := hide hstep
      have HBF : Hid (Below w.heap.size w (w6.setCell ⟨wm.heap.size, 0, none⟩ (.slice oa6 (X ++ [((vr, rb, .slice ra rL rc, cz * z) : Pt)]).length oc6))) := ((bafter HBW.out HB5.out (Nat.le_refl _)).grown hg6 (Nat.le_trans HBW.out.size HB5.out.size) (fun j hj => Nat.le_trans HB01.out.size (HJ.out.own.lt hj).1)).setCell (p := ⟨wm.heap.size, 0, none⟩) (by have := HB01.out.size; have := HSZM.out; show _ ≤ wm.heap.size; omega) _
      have HS6 : Hid ((fun Y : World => Y.cell? ⟨B, 0, none⟩ = some (.bool nb) ∧ Y.cell? ⟨B, 1, none⟩ = some (.slice ma mL mc) ∧ Y.cell? ⟨w.heap.size + 1, 0, none⟩ = some (.bool dn) ∧ Y.cell? ⟨w.heap.size + 1, 1, none⟩ = some (.slice da dL dc)) w6) := by
        have h1 : Two w6 B (.bool nb) (.slice ma mL mc) 24 := (hg6.block B (Nat.lt_of_lt_of_le HBB.out.lt' HB5.out.size) (fun e => HJ.out.own.apart HBB.out (by decide) e.symm)).trans (HBB.out.keep HB5.out)
        have h2 : Two w6 (w.heap.size + 1) (.bool dn) (.slice da dL dc) 24 := (hg6.block _ (Nat.lt_of_lt_of_le HJ.out.oth.2.1.lt' HB5.out.size) (fun e => HJ.out.own.apart HJ.out.oth.2.1 (by decide) e.symm)).trans (HJ.out.oth.2.1.keep HB5.out)
        exact ⟨h1.c0, h1.c1, h2.c0, h2.c1⟩
      have hu6 : Uno w6 wm.heap.size (.slice oa X.length oc) 25 := (hg6.block _ (Nat.lt_of_lt_of_le HJ.out.box.lt HB5.out.size) (fun e => HJ.out.own.apart HJ.out.box (by decide) e.symm)).trans (HJ.out.box.keep HB5.out)
      have y0 := hu6.c0
      have y1 := hu6.f0 0
      have HS7 : Hid ((fun Y : World => Y.cell? ⟨B, 0, none⟩ = some (.bool nb) ∧ Y.cell? ⟨B, 1, none⟩ = some (.slice ma mL mc) ∧ Y.cell? ⟨w.heap.size + 1, 0, none⟩ = some (.bool dn) ∧ Y.cell? ⟨w.heap.size + 1, 1, none⟩ = some (.slice da dL dc)) (w6.setCell ⟨wm.heap.size, 0, none⟩ (.slice oa6 (X ++ [((vr, rb, .slice ra rL rc, cz * z) : Pt)]).length oc6))) := by
        obtain ⟨p0, p1, p2, p3⟩ := HS6.out
        have hn1 : B ≠ wm.heap.size := by
          intro e
          have h2 := HBB.out
          rw [e] at h2
          exact absurd (HJ.out.box.symm.trans h2) (by simp)
        have hn2 : w.heap.size + 1 ≠ wm.heap.size := by
          have := HSZM.out
          have := HSC2.out.2.1
          have h3 := HJ.out.oth.2.1
          intro e
          rw [e] at h3
          exact absurd (HJ.out.box.symm.trans h3) (by simp)
        refine ⟨?_, ?_, ?_, ?_⟩
        · exact (World.cell?_of_block (a := ⟨B, 0, none⟩) (heap_setCell_other w6 ⟨wm.heap.size, 0, none⟩ B _ hn1)).trans p0
        · exact (World.cell?_of_block (a := ⟨B, 1, none⟩) (heap_setCell_other w6 ⟨wm.heap.size, 0, none⟩ B _ hn1)).trans p1
        · exact (World.cell?_of_block (a := ⟨w.heap.size + 1, 0, none⟩) (heap_setCell_other w6 ⟨wm.heap.size, 0, none⟩ _ _ hn2)).trans p2
        · exact (World.cell?_of_block (a := ⟨w.heap.size + 1, 1, none⟩) (heap_setCell_other w6 ⟨wm.heap.size, 0, none⟩ _ _ hn2)).trans p3
      generalize hxl : (X ++ [((vr, rb, .slice ra rL rc, cz * z) : Pt)]).length = xl at *
      have HXL := hide hxl
      clear hstep ho6 hg6 ha6 hk6 hu6 hxl
      refine wpAnyH_ready (rs := [7]) (by kernel_rfl) (by simp) ?_
      refine AllReadyH.cons rfl (fun K hK => ?_) AllReadyH.nil
      refine Lib.wp_append_run _ _ _ _ _ rfl _ _ rfl rfl _ _ hrun6 ?_
      clear hrun6
      refine hK.out _ _ (HS6.out) (fun hHeld => ?_)
      clear hK K hHeld
      try simp only [Act.put, List.setIfInBounds_toArray, List.set_cons_zero, List.set_cons_succ]
      refine wpAnyH_ready (rs := [8]) (by kernel_rfl) (by simp) ?_
      refine AllReadyH.cons rfl (fun K hK => ?_) AllReadyH.nil
      go_simp
      refine hK.out _ _ (HS7.out) (fun hHeld => ?_)
      clear hK K hHeld
      try simp only [Act.put, List.setIfInBounds_toArray, List.set_cons_zero, List.set_cons_succ]
      refine wpAnyH_done (by kernel_rfl) ?_ _
      (try simp only [Exit.then])
      gi_wp2
      have e9 := HXL.out
      subst e9
      exact ⟨HSTEP.out.2.from _, ⟨_, _, _, HSTEP.out.1⟩, HBF.out⟩
    · go_simp
      refine (HMUL.out _ (by (first | exact (Below.refl _ _).drew | exact Below.refl _ _))).mono ?_
      rintro e w4 ⟨v4, rfl, hr4, hb4⟩
      obtain ⟨rb, ra, rL, rc, rfl⟩ := hr4.form
      have HB4 : Hid (Below W.heap.size W w4) := bafter (by (first | exact (Below.refl _ _).drew | exact Below.refl _ _)) hb4 (Nat.le_refl _)
      have HR4 := hide hr4
      clear hr4 hb4
      go_wp2_with fail
      refine hK.out _ _ (HS.out _ HB4.out) (fun hHeld => ?_)
      clear hK K hSS
      try simp only [Act.put, List.setIfInBounds_toArray, List.set_cons_zero, List.set_cons_succ]
      refine takeD (i := 5) (v := ?v5) (some 25) rfl (by kernel_rfl) (by kernel_rfl) (by kernel_rfl) (fun _ _ _ h => h) (Or.inl ⟨by rfl, ?hy5⟩) (by assumption) (by rfl) ?rest5
      case hy5 => first | (intro w hSw; (try dsimp only at hSw); obtain ⟨q0, q1, q2, q3⟩ := hSw; go_simp; done) | (intro w hSw; (try dsimp only at hSw); obtain ⟨q0, q1, q2, q3⟩ := hSw; go_simp; with_reducible rfl)
      try simp only [Act.put, List.setIfInBounds_toArray, List.set_cons_zero, List.set_cons_succ]
      refine wpAnyH_ready (rs := [0, 6]) (by kernel_rfl) (by simp) ?_
      refine AllReadyH.cons rfl (fun K hK => ?_) (AllReadyH.cons rfl (fun K hK => ?_) AllReadyH.nil)
      · have y0 := (HJ.out.box.keep HB4.out).c0
        go_simp
        refine hK.out _ _ (HS.out _ HB4.out) (fun hHeld => ?_)
        clear hK K
        try simp only [Act.put, List.setIfInBounds_toArray, List.set_cons_zero, List.set_cons_succ]
        clear y0
        refine wpAnyH_ready (rs := [6]) (by kernel_rfl) (by simp) ?_
        refine AllReadyH.cons rfl (fun K hK => ?_) AllReadyH.nil
        go_simp
        have hbl := bel w4 (.cells #[.int .i64 vr, .bool rb, .slice ra rL rc] 89)
        have HB5 := hide (bafter HB4.out hbl (Nat.le_refl _))
        have HBL5 := hide hbl
        have HRL := hide (row_lit w4 vr rb (.slice ra rL rc) (cz * z))
        clear hbl
        generalize hw5 : w4.alloc (.cells #[.int .i64 vr, .bool rb, .slice ra rL rc] 89) = w5 at *
        clear hw5
        refine hK.out _ _ (HS.out _ HB5.out) (fun hHeld => ?_)
        clear hK K hHeld
        try simp only [Act.put, List.setIfInBounds_toArray, List.set_cons_zero, List.set_cons_succ]
        obtain ⟨v6, w6, hrun6, ho6, hg6, ha6, hk6⟩ := run_appP w5 w1.heap.size 25 _ X (HJ.out.own.below HB5.out) _ [(vr, rb, .slice ra rL rc, cz * z)] HRL.out (fun m hm => by simp at hm; subst hm; rfl) (by have h1 := congrArg List.length HJ.out.ps; have h2 := HL3.out; simp [ps, times] at h1; simp; omega) (by have h1 := HJ.out.box.lt; have h2 := HB5.out.size; have h3 := HSZM.out; omega)
        obtain ⟨oa6, oc6, rfl, _, _⟩ := ho6.len
        have hstep := HJ.out.step HM.out HB5.out (by have := HBB.out.lt'; have := HBL.out; omega) (by have := HB0.out; have := HSZ2.out; omega) ho6 hg6 ha6 hk6 ⟨HRG.out, HR4.out.below HBL5.out⟩ (fun W9 h9 => ⟨(h9 _ (by have := HUX.out; have := HJ.out.oth.1; intro e; rw [e] at this; exact absurd (HJ.out.box.symm.trans this) (by simp)) (HJ.out.own.apart HJ.out.oth.1 (by decide)) HJ.out.oth.1.lt).trans HJ.out.oth.1, (h9 _ (by have := HJ.out.oth.2.1; intro e; rw [e] at this; exact absurd (HJ.out.box.symm.trans this) (by simp)) (HJ.out.own.apart HJ.out.oth.2.1 (by decide)) HJ.out.oth.2.1.lt').trans HJ.out.oth.2.1, (h9 _ (by have := HJ.out.oth.2.2; intro e; rw [e] at this; exact absurd (HJ.out.box.symm.trans this) (by simp)) (HJ.out.own.apart HJ.out.oth.2.2 (by decide)) HJ.out.oth.2.2.lt).trans HJ.out.oth.2.2⟩)
        have HSTEP := hide hstep
        have HBF : Hid (Below w.heap.size w (w6.setCell ⟨wm.heap.size, 0, none⟩ (.slice oa6 (X ++ [((vr, rb, .slice ra rL rc, cz * z) : Pt)]).length oc6))) := ((bafter HBW.out HB5.out (Nat.le_refl _)).grown hg6 (Nat.le_trans HBW.out.size HB5.out.size) (fun j hj => Nat.le_trans HB01.out.size (HJ.out.own.lt hj).1)).setCell (p := ⟨wm.heap.size, 0, none⟩) (by have := HB01.out.size; have := HSZM.out; show _ ≤ wm.heap.size; omega) _
        have HS6 : Hid ((fun Y : World => Y.cell? ⟨B, 0, none⟩ = some (.bool nb) ∧ Y.cell? ⟨B, 1, none⟩ = some (.slice ma mL mc) ∧ Y.cell? ⟨w.heap.size + 1, 0, none⟩ = some (.bool dn) ∧ Y.cell? ⟨w.heap.size + 1, 1, none⟩ = some (.slice da dL dc)) w6) := by
          have h1 : Two w6 B (.bool nb) (.slice ma mL mc) 24 := (hg6.block B (Nat.lt_of_lt_of_le HBB.out.lt' HB5.out.size) (fun e => HJ.out.own.apart HBB.out (by decide) e.symm)).trans (HBB.out.keep HB5.out)
          have h2 : Two w6 (w.heap.size + 1) (.bool dn) (.slice da dL dc) 24 := (hg6.block _ (Nat.lt_of_lt_of_le HJ.out.oth.2.1.lt' HB5.out.size) (fun e => HJ.out.own.apart HJ.out.oth.2.1 (by decide) e.symm)).trans (HJ.out.oth.2.1.keep HB5.out)
          exact ⟨h1.c0, h1.c1, h2.c0, h2.c1⟩
        have hu6 : Uno w6 wm.heap.size (.slice oa X.length oc) 25 := (hg6.block _ (Nat.lt_of_lt_of_le HJ.out.box.lt HB5.out.size) (fun e => HJ.out.own.apart HJ.out.box (by decide) e.symm)).trans (HJ.out.box.keep HB5.out)
        have y0 := hu6.c0
        have y1 := hu6.f0 0
        have HS7 : Hid ((fun Y : World => Y.cell? ⟨B, 0, none⟩ = some (.bool nb) ∧ Y.cell? ⟨B, 1, none⟩ = some (.slice ma mL mc) ∧ Y.cell? ⟨w.heap.size + 1, 0, none⟩ = some (.bool dn) ∧ Y.cell? ⟨w.heap.size + 1, 1, none⟩ = some (.slice da dL dc)) (w6.setCell ⟨wm.heap.size, 0, none⟩ (.slice oa6 (X ++ [((vr, rb, .slice ra rL rc, cz * z) : Pt)]).length oc6))) := by
          obtain ⟨p0, p1, p2, p3⟩ := HS6.out
          have hn1 : B ≠ wm.heap.size := by
            intro e
            have h2 := HBB.out
            rw [e] at h2
            exact absurd (HJ.out.box.symm.trans h2) (by simp)
          have hn2 : w.heap.size + 1 ≠ wm.heap.size := by
            have := HSZM.out
            have := HSC2.out.2.1
            have h3 := HJ.out.oth.2.1
            intro e
            rw [e] at h3
            exact absurd (HJ.out.box.symm.trans h3) (by simp)
          refine ⟨?_, ?_, ?_, ?_⟩
          · exact (World.cell?_of_block (a := ⟨B, 0, none⟩) (heap_setCell_other w6 ⟨wm.heap.size, 0, none⟩ B _ hn1)).trans p0
          · exact (World.cell?_of_block (a := ⟨B, 1, none⟩) (heap_setCell_other w6 ⟨wm.heap.size, 0, none⟩ B _ hn1)).trans p1
          · exact (World.cell?_of_block (a := ⟨w.heap.size + 1, 0, none⟩) (heap_setCell_other w6 ⟨wm.heap.size, 0, none⟩ _ _ hn2)).trans p2
          · exact (World.cell?_of_block (a := ⟨w.heap.size + 1, 1, none⟩) (heap_setCell_other w6 ⟨wm.heap.size, 0, none⟩ _ _ hn2)).trans p3
        generalize hxl : (X ++ [((vr, rb, .slice ra rL rc, cz * z) : Pt)]).length = xl at *
        have HXL := hide hxl
        clear hstep ho6 hg6 ha6 hk6 hu6 hxl
        refine wpAnyH_ready (rs := [7]) (by kernel_rfl) (by simp) ?_
        refine AllReadyH.cons rfl (fun K hK => ?_) AllReadyH.nil
        refine Lib.wp_append_run _ _ _ _ _ rfl _ _ rfl rfl _ _ hrun6 ?_
        clear hrun6
        refine hK.out _ _ (HS6.out) (fun hHeld => ?_)
        clear hK K hHeld
        try simp only [Act.put, List.setIfInBounds_toArray, List.set_cons_zero, List.set_cons_succ]
        refine wpAnyH_ready (rs := [8]) (by kernel_rfl) (by simp) ?_
        refine AllReadyH.cons rfl (fun K hK => ?_) AllReadyH.nil
        go_simp
        refine hK.out _ _ (HS7.out) (fun hHeld => ?_)
        clear hK K hHeld
        try simp only [Act.put, List.setIfInBounds_toArray, List.set_cons_zero, List.set_cons_succ]
        refine wpAnyH_done (by kernel_rfl) ?_ _
        (try simp only [Exit.then])
        gi_wp2
        have e9 := HXL.out
        subst e9
        exact ⟨HSTEP.out.2.from _, ⟨_, _, _, HSTEP.out.1⟩, HBF.out⟩
      · go_simp
        have hbl := bel w4 (.cells #[.int .i64 vr, .bool rb, .slice ra rL rc] 89)
        have HB5 := hide (bafter HB4.out hbl (Nat.le_refl _))
        have HBL5 := hide hbl
        have HRL := hide (row_lit w4 vr rb (.slice ra rL rc) (cz * z))
        clear hbl
        generalize hw5 : w4.alloc (.cells #[.int .i64 vr, .bool rb, .slice ra rL rc] 89) = w5 at *
        clear hw5
        refine hK.out _ _ (HS.out _ HB5.out) (fun hHeld => ?_)
        clear hK K hHeld
        try simp only [Act.put, List.setIfInBounds_toArray, List.set_cons_zero, List.set_cons_succ]
        have y0 := (HJ.out.box.keep HB5.out).c0
        refine wpAnyH_ready (rs := [0]) (by kernel_rfl) (by simp) ?_
        refine AllReadyH.cons rfl (fun K hK => ?_) AllReadyH.nil
        go_simp
        refine hK.out _ _ (HS.out _ HB5.out) (fun hHeld => ?_)
        clear hK K hHeld
        try simp only [Act.put, List.setIfInBounds_toArray, List.set_cons_zero, List.set_cons_succ]
        clear y0
        obtain ⟨v6, w6, hrun6, ho6, hg6, ha6, hk6⟩ := run_appP w5 w1.heap.size 25 _ X (HJ.out.own.below HB5.out) _ [(vr, rb, .slice ra rL rc, cz * z)] HRL.out (fun m hm => by simp at hm; subst hm; rfl) (by have h1 := congrArg List.length HJ.out.ps; have h2 := HL3.out; simp [ps, times] at h1; simp; omega) (by have h1 := HJ.out.box.lt; have h2 := HB5.out.size; have h3 := HSZM.out; omega)
        obtain ⟨oa6, oc6, rfl, _, _⟩ := ho6.len
        have hstep := HJ.out.step HM.out HB5.out (by have := HBB.out.lt'; have := HBL.out; omega) (by have := HB0.out; have := HSZ2.out; omega) ho6 hg6 ha6 hk6 ⟨HRG.out, HR4.out.below HBL5.out⟩ (fun W9 h9 => ⟨(h9 _ (by have := HUX.out; have := HJ.out.oth.1; intro e; rw [e] at this; exact absurd (HJ.out.box.symm.trans this) (by simp)) (HJ.out.own.apart HJ.out.oth.1 (by decide)) HJ.out.oth.1.lt).trans HJ.out.oth.1, (h9 _ (by have := HJ.out.oth.2.1; intro e; rw [e] at this; exact absurd (HJ.out.box.symm.trans this) (by simp)) (HJ.out.own.apart HJ.out.oth.2.1 (by decide)) HJ.out.oth.2.1.lt').trans HJ.out.oth.2.1, (h9 _ (by have := HJ.out.oth.2.2; intro e; rw [e] at this; exact absurd (HJ.out.box.symm.trans this) (by simp)) (HJ.out.own.apart HJ.out.oth.2.2 (by decide)) HJ.out.oth.2.2.lt).trans HJ.out.oth.2.2⟩)
        have HSTEP := hide hstep
        have HBF : Hid (Below w.heap.size w (w6.setCell ⟨wm.heap.size, 0, none⟩ (.slice oa6 (X ++ [((vr, rb, .slice ra rL rc, cz * z) : Pt)]).length oc6))) := ((bafter HBW.out HB5.out (Nat.le_refl _)).grown hg6 (Nat.le_trans HBW.out.size HB5.out.size) (fun j hj => Nat.le_trans HB01.out.size (HJ.out.own.lt hj).1)).setCell (p := ⟨wm.heap.size, 0, none⟩) (by have := HB01.out.size; have := HSZM.out; show _ ≤ wm.heap.size; omega) _
        have HS6 : Hid ((fun Y : World => Y.cell? ⟨B, 0, none⟩ = some (.bool nb) ∧ Y.cell? ⟨B, 1, none⟩ = some (.slice ma mL mc) ∧ Y.cell? ⟨w.heap.size + 1, 0, none⟩ = some (.bool dn) ∧ Y.cell? ⟨w.heap.size + 1, 1, none⟩ = some (.slice da dL dc)) w6) := by
          have h1 : Two w6 B (.bool nb) (.slice ma mL mc) 24 := (hg6.block B (Nat.lt_of_lt_of_le HBB.out.lt' HB5.out.size) (fun e => HJ.out.own.apart HBB.out (by decide) e.symm)).trans (HBB.out.keep HB5.out)
          have h2 : Two w6 (w.heap.size + 1) (.bool dn) (.slice da dL dc) 24 := (hg6.block _ (Nat.lt_of_lt_of_le HJ.out.oth.2.1.lt' HB5.out.size) (fun e => HJ.out.own.apart HJ.out.oth.2.1 (by decide) e.symm)).trans (HJ.out.oth.2.1.keep HB5.out)
          exact ⟨h1.c0, h1.c1, h2.c0, h2.c1⟩
        have hu6 : Uno w6 wm.heap.size (.slice oa X.length oc) 25 := (hg6.block _ (Nat.lt_of_lt_of_le HJ.out.box.lt HB5.out.size) (fun e => HJ.out.own.apart HJ.out.box (by decide) e.symm)).trans (HJ.out.box.keep HB5.out)
        have y0 := hu6.c0
        have y1 := hu6.f0 0
        have HS7 : Hid ((fun Y : World => Y.cell? ⟨B, 0, none⟩ = some (.bool nb) ∧ Y.cell? ⟨B, 1, none⟩ = some (.slice ma mL mc) ∧ Y.cell? ⟨w.heap.size + 1, 0, none⟩ = some (.bool dn) ∧ Y.cell? ⟨w.heap.size + 1, 1, none⟩ = some (.slice da dL dc)) (w6.setCell ⟨wm.heap.size, 0, none⟩ (.slice oa6 (X ++ [((vr, rb, .slice ra rL rc, cz * z) : Pt)]).length oc6))) := by
          obtain ⟨p0, p1, p2, p3⟩ := HS6.out
          have hn1 : B ≠ wm.heap.size := by
            intro e
            have h2 := HBB.out
            rw [e] at h2
            exact absurd (HJ.out.box.symm.trans h2) (by simp)
          have hn2 : w.heap.size + 1 ≠ wm.heap.size := by
            have := HSZM.out
            have := HSC2.out.2.1
            have h3 := HJ.out.oth.2.1
            intro e
            rw [e] at h3
            exact absurd (HJ.out.box.symm.trans h3) (by simp)
          refine ⟨?_, ?_, ?_, ?_⟩
          · exact (World.cell?_of_block (a := ⟨B, 0, none⟩) (heap_setCell_other w6 ⟨wm.heap.size, 0, none⟩ B _ hn1)).trans p0
          · exact (World.cell?_of_block (a := ⟨B, 1, none⟩) (heap_setCell_other w6 ⟨wm.heap.size, 0, none⟩ B _ hn1)).trans p1
          · exact (World.cell?_of_block (a := ⟨w.heap.size + 1, 0, none⟩) (heap_setCell_other w6 ⟨wm.heap.size, 0, none⟩ _ _ hn2)).trans p2
          · exact (World.cell?_of_block (a := ⟨w.heap.size + 1, 1, none⟩) (heap_setCell_other w6 ⟨wm.heap.size, 0, none⟩ _ _ hn2)).trans p3
        generalize hxl : (X ++ [((vr, rb, .slice ra rL rc, cz * z) : Pt)]).length = xl at *
        have HXL := hide hxl
        clear hstep ho6 hg6 ha6 hk6 hu6 hxl
        refine wpAnyH_ready (rs := [7]) (by kernel_rfl) (by simp) ?_
        refine AllReadyH.cons rfl (fun K hK => ?_) AllReadyH.nil
        refine Lib.wp_append_run _ _ _ _ _ rfl _ _ rfl rfl _ _ hrun6 ?_
        clear hrun6
        refine hK.out _ _ (HS6.out) (fun hHeld => ?_)
        clear hK K hHeld
        try simp only [Act.put, List.setIfInBounds_toArray, List.set_cons_zero, List.set_cons_succ]
        refine wpAnyH_ready (rs := [8]) (by kernel_rfl) (by simp) ?_
        refine AllReadyH.cons rfl (fun K hK => ?_) AllReadyH.nil
        go_simp
        refine hK.out _ _ (HS7.out) (fun hHeld => ?_)
        clear hK K hHeld
        try simp only [Act.put, List.setIfInBounds_toArray, List.set_cons_zero, List.set_cons_succ]
        refine wpAnyH_done (by kernel_rfl) ?_ _
        (try simp only [Exit.then])
        gi_wp2
        have e9 := HXL.out
        subst e9
        exact ⟨HSTEP.out.2.from _, ⟨_, _, _, HSTEP.out.1⟩, HBF.out⟩
  case done =>
    rintro D W hD ⟨X, oa, oc, hj⟩ hbw hK
    have HJ := hide hj
    have HBW := hide hbw
    have HK := hide hK
    have HD := hide hD
    have HPS : Hid (ps X = times z (ps M3)) := by
      have h1 := hj.ps
      rw [List.take_length] at h1
      exact h1
    have HMUL := hide (fun (Y : World) (hY : Below W.heap.size W Y) => bmul_calls (HT.out.num.below (bafter hbw hY (Nat.le_refl _))) (HG.out.below (bafter hbw hY (Nat.le_refl _))))
    have HOWN := hide hj.own
    have HBOX := hide hj.box
    clear hj hbw hK hD hstart
    generalize hxl : X.length = xl at *
    have HXL := hide hxl
    clear hxl
    have HS : Hid (∀ Y, Below W.heap.size W Y → Y.cell? ⟨w.heap.size, 0, none⟩ = some (.bool cn) ∧ Y.cell? ⟨w.heap.size, 1, none⟩ = some (.slice ca cL cc) ∧ Y.cell? ⟨w.heap.size + 1, 0, none⟩ = some (.bool dn) ∧ Y.cell? ⟨w.heap.size + 1, 1, none⟩ = some (.slice da dL dc) ∧ Y.cell? ⟨wm.heap.size, 0, none⟩ = some (.slice oa xl oc)) := fun Y hY => ⟨(HJ.out.oth.1.keep hY).c0, (HJ.out.oth.1.keep hY).c1, (HJ.out.oth.2.1.keep hY).c0, (HJ.out.oth.2.1.keep hY).c1, (HBOX.out.keep hY).c0⟩
    go_upto_region 8 with fail
    refine wp_region_held_drew (S := fun X : World => X.cell? ⟨w.heap.size, 0, none⟩ = some (.bool cn) ∧ X.cell? ⟨w.heap.size, 1, none⟩ = some (.slice ca cL cc) ∧ X.cell? ⟨w.heap.size + 1, 0, none⟩ = some (.bool dn) ∧ X.cell? ⟨w.heap.size + 1, 1, none⟩ = some (.slice da dL dc) ∧ X.cell? ⟨wm.heap.size, 0, none⟩ = some (.slice oa xl oc)) (by kernel_rfl) ?_ (fun hHeld => ?_)
    · exact HS.out _ (by (first | exact (Below.refl _ _).drew | exact Below.refl _ _))
    refine takeD (i := 0) (v := ?v101) (some 28) rfl (by kernel_rfl) (by kernel_rfl) (by kernel_rfl) (fun _ _ _ h => h) (Or.inl ⟨by rfl, ?hy101⟩) (by assumption) (by rfl) ?rest101
    case hy101 => first | (intro w hSw; (try dsimp only at hSw); obtain ⟨q0, q1, q2, q3, q4⟩ := hSw; go_simp; done) | (intro w hSw; (try dsimp only at hSw); obtain ⟨q0, q1, q2, q3, q4⟩ := hSw; go_simp; with_reducible rfl)
    try simp only [Act.put, List.setIfInBounds_toArray, List.set_cons_zero, List.set_cons_succ]
    refine takeD (i := 1) (v := ?v102) (some 29) rfl (by kernel_rfl) (by kernel_rfl) (by kernel_rfl) (fun _ _ _ h => h) (Or.inl ⟨by rfl, ?hy102⟩) (by assumption) (by rfl) ?rest102
    case hy102 => first | (intro w hSw; (try dsimp only at hSw); obtain ⟨q0, q1, q2, q3, q4⟩ := hSw; go_simp; done) | (intro w hSw; (try dsimp only at hSw); obtain ⟨q0, q1, q2, q3, q4⟩ := hSw; go_simp; with_reducible rfl)
    try simp only [Act.put, List.setIfInBounds_toArray, List.set_cons_zero, List.set_cons_succ]
    refine takeD (i := 2) (v := ?v103) (some 30) rfl (by kernel_rfl) (by kernel_rfl) (by kernel_rfl) (fun _ _ _ h => h) (Or.inl ⟨by rfl, ?hy103⟩) (by assumption) (by rfl) ?rest103
    case hy103 => first | (intro w hSw; (try dsimp only at hSw); obtain ⟨q0, q1, q2, q3, q4⟩ := hSw; go_simp; done) | (intro w hSw; (try dsimp only at hSw); obtain ⟨q0, q1, q2, q3, q4⟩ := hSw; go_simp; with_reducible rfl)
    try simp only [Act.put, List.setIfInBounds_toArray, List.set_cons_zero, List.set_cons_succ]
    refine takeD (i := 4) (v := ?v104) (some 32) rfl (by kernel_rfl) (by kernel_rfl) (by kernel_rfl) (fun _ _ _ h => h) (Or.inl ⟨by rfl, ?hy104⟩) (by assumption) (by rfl) ?rest104
    case hy104 => first | (intro w hSw; (try dsimp only at hSw); obtain ⟨q0, q1, q2, q3, q4⟩ := hSw; go_simp; done) | (intro w hSw; (try dsimp only at hSw); obtain ⟨q0, q1, q2, q3, q4⟩ := hSw; go_simp; with_reducible rfl)
    try simp only [Act.put, List.setIfInBounds_toArray, List.set_cons_zero, List.set_cons_succ]
    refine wpAnyH_ready (rs := [3]) (by kernel_rfl) (by simp) ?_
    refine AllReadyH.cons rfl (fun K hK => ?_) AllReadyH.nil
    go_simp
    refine (HMUL.out _ (by (first | exact (Below.refl _ _).drew | exact Below.refl _ _))).mono ?_
    rintro e w4 ⟨v4, rfl, hr4, hb4⟩
    obtain ⟨rb, ra, rL, rc, rfl⟩ := hr4.form
    have HB4 : Hid (Below W.heap.size W w4) := bafter (by (first | exact (Below.refl _ _).drew | exact Below.refl _ _)) hb4 (Nat.le_refl _)
    have HR4 := hide hr4
    clear hr4 hb4
    go_wp2_with fail
    refine hK.out _ _ (HS.out _ HB4.out) (fun hHeld => ?_)
    clear hK K
    try simp only [Act.put, List.setIfInBounds_toArray, List.set_cons_zero, List.set_cons_succ]
    refine wpAnyH_ready (rs := [5]) (by kernel_rfl) (by simp) ?_
    refine AllReadyH.cons rfl (fun K hK => ?_) AllReadyH.nil
    go_simp
    refine made_calls.mono ?_
    rintro e w5 ⟨ta, tl, tc, rfl, hrow5, hb5⟩
    have HB5 := hide (bafter HB4.out hb5 (Nat.le_refl _))
    have HR5 : Hid (RowP w5 (.slice ta tl tc) X) := hrow5 w5 X (by have h1 := HXL.out; subst h1; exact (HOWN.out.below HB5.out).row)
    have HR45 := hide (HR4.out.below hb5)
    clear hrow5 hb5 hHeld
    go_wp2_with fail
    refine hK.out _ _ (HS.out _ HB5.out) (fun hHeld => ?_)
    clear hK K
    try simp only [Act.put, List.setIfInBounds_toArray, List.set_cons_zero, List.set_cons_succ]
    have TZ5 := hide (HJ.out.oth.2.2.keep HB5.out)
    obtain ⟨d0, d1, d2, f0, f1, f2⟩ := TZ5.out.every
    have HTR : Hid (TermR w5 (.agg #[.bool rb, .slice ra rL rc, .slice ta tl tc]) (c * z) X) := ⟨_, _, _, _, _, _, _, rfl, HR45.out, HR5.out, HJ.out.good.below HB5.out, by rw [HPS.out]; exact times_nf HN3.out hz⟩
    have hne : wm.heap.size ≠ w.heap.size + 2 := by
      have h1 := HJ.out.oth.2.2
      intro e
      rw [← e] at h1
      exact absurd (HBOX.out.symm.trans h1) (by simp)
    have HS6 : Hid (let X := put3 w5 (w.heap.size + 2) (.bool rb) (.slice ra rL rc) (.slice ta tl tc); X.cell? ⟨w.heap.size, 0, none⟩ = some (.bool cn) ∧ X.cell? ⟨w.heap.size, 1, none⟩ = some (.slice ca cL cc) ∧ X.cell? ⟨w.heap.size + 1, 0, none⟩ = some (.bool dn) ∧ X.cell? ⟨w.heap.size + 1, 1, none⟩ = some (.slice da dL dc) ∧ X.cell? ⟨wm.heap.size, 0, none⟩ = some (.slice oa xl oc)) := by
      show _ ∧ _ ∧ _ ∧ _ ∧ _
      rw [put3_cells (by omega), put3_cells (by omega), put3_cells (by omega), put3_cells (by omega), put3_cells hne]
      exact HS.out _ HB5.out
    clear hne
    refine wpAnyH_ready (rs := [6]) (by kernel_rfl) (by simp) ?_
    refine AllReadyH.cons rfl (fun K hK => ?_) AllReadyH.nil
    go_simp
    refine hK.out _ _ (HS6.out) (fun hHeld => ?_)
    clear hK K hHeld
    try simp only [Act.put, List.setIfInBounds_toArray, List.set_cons_zero, List.set_cons_succ]
    refine wpAnyH_done (by kernel_rfl) ?_ _
    clear d0 d1 d2 f0 f1 f2
    go_wp2
    have hK' : (put3 w5 (w.heap.size + 2) (.bool rb) (.slice ra rL rc) (.slice ta tl tc)).heap[D]? = some (.deferred (some [])) := by
      have hDlt := (Array.getElem?_eq_some_iff.1 HK.out).1
      have hk5 := (HB5.out.block D hDlt).trans HK.out
      refine (put3_other ?_ _ _ _).trans hk5
      intro e
      have h1 := TZ5.out
      rw [← e] at h1
      exact absurd (h1.symm.trans hk5) (by simp)
    refine ⟨by simp, .inl ⟨_, _, rfl, run_takeDeferred hK', ?_⟩⟩
    have hcel := cel_put (.deferred none) hK' rfl
    refine ⟨_, results_term rfl rfl (hcel.thr (TZ5.out.put _ _ _)), ?_⟩
    refine ⟨_, X, rfl, (HTR.out.but (TZ5.out.but _ _ _)).cel hcel, fun x => ?_, ?_⟩
    · rw [HPS.out, times, cf_scale, HC3.out]
    · exact (put3_below (bafter HBW.out HB5.out (Nat.le_refl _)) (by omega) _ _ _).trans (belowK_b (w := w) (Nat.le_refl _) _ D _ _ (by have h1 := HD.out; have h2 := HB02.out.size; have h3 := HB3.out.size; omega) hK' rfl rfl)
  case stop => exact fun D c k W hD hk h hb hK => h.elim

theorem scale_calls {k : Nat} {w : World} {v u : Value} {c z : Int} {M : List Pt} (h : TermA k w v c M) (g : BArg w u z) (hk : k ≤ 400000) :
    Calls Tryz.prog 31 #[v, u] w fun e w' => TermE w (c * z) (fun x => cf x (ps M) * z) e w' := by
  by_cases hz : z = 0
  · exact scale_zero h g hz
  · exact scale_some h g hz hk

end Go.Proofs.YtbjolmgobeagoaaGreatDoor
