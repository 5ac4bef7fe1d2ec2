/- The reference's Scale. -/
import Derived.Test.YtbjolmgobeagoaaGreatDoorLnRSmall
namespace Go.Proofs.YtbjolmgobeagoaaGreatDoor
set_option linter.unusedVariables false
set_option linter.unusedSimpArgs false
set_option maxRecDepth 100000
open Go Go.RowKit Go.Shelf Go.Lib

theorem bndT_times {l : Ps} {k j : Nat} {z : Int} (h : BndT k l) (hz : z.natAbs < 10 ^ j) : BndT (k + j) (times z l) := fun p hp => by
  obtain ⟨q, hq, rfl⟩ := List.mem_map.1 hp
  show (q.2 * z).natAbs < _
  rw [Int.natAbs_mul, Nat.pow_add]
  exact Nat.mul_lt_mul'' (h q hq) hz
theorem times_take_step {M : List Pt} {i : Nat} {m : Pt} {z : Int} (h : M[i]? = some m) : times z (ps (M.take (i + 1))) = times z (ps (M.take i)) ++ [(m.1, m.2.2.2 * z)] := by
  rw [ps_take_step h]
  simp [times, pt]

set_option maxHeartbeats 8000000 in
theorem rscaleT_calls {K : Nat} {w : World} {v u : Value} {c y : Int} {M : List Pt} (h : RTerm w v c M) (g : NRes w u y) (hc : c.natAbs < 10 ^ K) (hy : y.natAbs < 10 ^ K) (hb : BndT K (ps M)) (hl : M.length ≤ 50) (hK : K ≤ 300) :
    Calls Tryz.prog 32 #[v, u] w fun e w' => RTermE w (c * y) (fun l => NF l ∧ ∀ x, cf x l = cf x (ps M) * y) e w' := by
  obtain ⟨cn, ca, cL, cc, pa, pl, pc, rfl, h1, hr, hg⟩ := h
  obtain ⟨_, _, e, _, _, h3⟩ := hr
  simp only [Value.slice.injEq] at e
  obtain ⟨rfl, rfl, rfl⟩ := e
  generalize hLn : M.length = Ln at *
  have HLN := hide hLn
  have H3 := hide h3
  have HG := hide hg
  have HBD := hide hb
  obtain ⟨dn, da, dL, dc, rfl⟩ := g.form
  have tb := ((Thr.new w (.bool cn) (.slice ca cL cc) (.slice pa Ln pc) 35).alloc (.cells #[.bool dn, .slice da dL dc] 32)).alloc (.cells #[.bool false, .slice none 0 0, .slice none 0 0] 35)
  have tn := (Two.new1 w (.cells #[.bool cn, .slice ca cL cc, .slice pa Ln pc] 35) (.bool dn) (.slice da dL dc) 32).alloc (.cells #[.bool false, .slice none 0 0, .slice none 0 0] 35)
  have tz := Thr.new2 w (.cells #[.bool cn, .slice ca cL cc, .slice pa Ln pc] 35) (.cells #[.bool dn, .slice da dL dc] 32) (.bool false) (.slice none 0 0) (.slice none 0 0) 35
  have hba := bel3 w (.cells #[.bool cn, .slice ca cL cc, .slice pa Ln pc] 35) (.cells #[.bool dn, .slice da dL dc] 32) (.cells #[.bool false, .slice none 0 0, .slice none 0 0] 35)
  have hmul := rnmul_calls (K := K) ((h1.below hba).arg hc) ((g.below hba).arg hy) (by omega)
  generalize hwA : ((w.alloc (.cells #[.bool cn, .slice ca cL cc, .slice pa Ln pc] 35)).alloc (.cells #[.bool dn, .slice da dL dc] 32)).alloc (.cells #[.bool false, .slice none 0 0, .slice none 0 0] 35) = wA at *
  have HWA := hide hwA
  have TB := hide tb
  have TN := hide tn
  have TZ := hide tz
  have HBA := hide hba
  have HY := hide hy
  have HGN := hide g
  have HCY : Hid ((c * y).natAbs < 10 ^ (K + K)) := by
    show (c * y).natAbs < _
    rw [Int.natAbs_mul, Nat.pow_add]
    exact Nat.mul_lt_mul'' hc hy
  obtain ⟨c0, c1, c2, _, _, _⟩ := tb.every
  obtain ⟨e0, e1, _, _, _, _⟩ := tn.every
  clear hwA tb tn tz hba h1 h3 hg hLn hb hc hy g
  go_enter Tryz.func32, Tryz.ntmps32
  go_upto_region 1 with fail
  rw [HWA.out]
  go_wp2_with fail
  refine hmul.mono ?_
  rintro e w1 ⟨v1, rfl, hr1, hb1⟩
  obtain ⟨nb, na, nL, nc, rfl⟩ := hr1.form
  have hbx := bel w1 (.cells #[.bool nb, .slice na nL nc, .slice none 0 0] 35)
  have HST : Hid (RJ w1.heap.size w1.heap.size (fun W => Thr W w.heap.size (.bool cn) (.slice ca cL cc) (.slice pa Ln pc) 35 ∧ Two W (w.heap.size + 1) (.bool dn) (.slice da dL dc) 32 ∧ Thr W (w.heap.size + 2) (.bool false) (.slice none 0 0) (.slice none 0 0) 35) (c * y) nb na nL nc (w1.alloc (.cells #[.bool nb, .slice na nL nc, .slice none 0 0] 35)) [] none 0) :=
    ⟨Thr.new w1 _ _ _ _, hr1.below hbx, OwnQ.nil _ _, fun m hm => (by cases hm), (TB.out.keep hb1).keep hbx, (TN.out.keep hb1).keep hbx, (TZ.out.keep hb1).keep hbx⟩
  have HB1 := hide (bafter (bafter HBA.out hb1 (Nat.le_refl _)) hbx (Nat.le_refl _))
  have HN1 : Hid (w.heap.size + 3 ≤ w1.heap.size) := by
    have h1 := TZ.out.lt
    have h2 := hb1.size
    show _ ≤ _
    omega
  clear hmul hr1 hb1 hbx c0 c1 c2 e0 e1
  go_wp2
  go_loopw [6] (fun iv wr => ∃ (i : Nat) (X : List Pt) (oa : Option Addr) (oc : Nat), i ≤ Ln ∧ iv = .int .i64 (i : Int) ∧ RJ w1.heap.size w1.heap.size (fun W => Thr W w.heap.size (.bool cn) (.slice ca cL cc) (.slice pa Ln pc) 35 ∧ Two W (w.heap.size + 1) (.bool dn) (.slice da dL dc) 32 ∧ Thr W (w.heap.size + 2) (.bool false) (.slice none 0 0) (.slice none 0 0) 35) (c * y) nb na nL nc wr X oa oc ∧ ps X = times y (ps (M.take i)) ∧ Below w.heap.size w wr) (fun iv _ => Ln - (RowKit.intOf iv).toNat)
  case atStart => exact ⟨0, [], _, _, Nat.zero_le _, rfl, HST.out, by simp [times, ps], HB1.out⟩
  case round =>
    obtain ⟨i, X, oa, oc, hi, rfl, hj, hps, hbw⟩ := hrel
    obtain ⟨c0, c1, c2, _, _, _⟩ := hj.oth.1.every
    have HJ := hide hj
    have HPS := hide hps
    have HBW := hide hbw
    clear hj hps hbw
    by_cases hlt : i < Ln
    · obtain ⟨⟨vr, neg, mv, z⟩, hm⟩ : ∃ m, M[i]? = some m := ⟨_, List.getElem?_eq_getElem (by rw [HLN.out]; exact hlt)⟩
      obtain ⟨ma, mL, mc, e⟩ := HG.out.sl _ (List.mem_of_getElem? hm)
      simp only at e
      subst e
      obtain ⟨b, o, rfl, hc⟩ := H3.out i _ hm
      have HC : Hid (∀ W, Below w.heap.size w W → CellsP W b (o + i * 3) (vr, neg, .slice ma mL mc, z)) := fun W h => hc.below h
      have hgm := HG.out _ (List.mem_of_getElem? hm)
      have hzb : z.natAbs < 10 ^ K := HBD.out (vr, z) (List.mem_map.2 ⟨_, List.mem_of_getElem? hm, rfl⟩)
      have HRG := hide hgm.1
      have d1 : (i : Int) < (Ln : Int) := by omega
      have d0 : (0 : Int) ≤ (i : Int) := by omega
      have HM := hide hm
      have HMUL := hide (fun (W : World) (h : Below wr.heap.size wr W) => rnmul_calls (K := K) ((hgm.2.below (bafter HBW.out h (Nat.le_refl _))).arg hzb) ((HGN.out.below (bafter HBW.out h (Nat.le_refl _))).arg HY.out) (by omega))
      have HXL : Hid (X.length ≤ 50) := by
        have h1 := congrArg List.length HPS.out
        rw [times_length, ps_length, ps_length, List.length_take] at h1
        have h2 := HLN.out
        show _ ≤ _
        omega
      clear hm hc hgm hzb
      have HS : Hid (∀ Y : World, Below wr.heap.size wr Y → Y.cell? ⟨w.heap.size, 2, none⟩ = some (.slice (some ⟨b, o, none⟩) Ln pc) ∧ Y.cell? ⟨b, o + i * 3, none⟩ = some (.int .i64 vr) ∧ Y.cell? ⟨b, o + i * 3 + 1, none⟩ = some (.bool neg) ∧ Y.cell? ⟨b, o + i * 3 + 2, none⟩ = some (.slice ma mL mc) ∧ Y.cell? ⟨w.heap.size + 1, 0, none⟩ = some (.bool dn) ∧ Y.cell? ⟨w.heap.size + 1, 1, none⟩ = some (.slice da dL dc)) := fun Y hY => by
        obtain ⟨h2, h3, h4⟩ := HC.out Y (bafter HBW.out hY (Nat.le_refl _))
        exact ⟨(HJ.out.oth.1.keep hY).c2, h2, h3, h4, (HJ.out.oth.2.1.keep hY).c0, (HJ.out.oth.2.1.keep hY).c1⟩
      go_upto_region 5 with fail
      refine wp_region_held_drew (S := fun Y : World => Y.cell? ⟨w.heap.size, 2, none⟩ = some (.slice (some ⟨b, o, none⟩) Ln pc) ∧ Y.cell? ⟨b, o + i * 3, none⟩ = some (.int .i64 vr) ∧ Y.cell? ⟨b, o + i * 3 + 1, none⟩ = some (.bool neg) ∧ Y.cell? ⟨b, o + i * 3 + 2, none⟩ = some (.slice ma mL mc) ∧ Y.cell? ⟨w.heap.size + 1, 0, none⟩ = some (.bool dn) ∧ Y.cell? ⟨w.heap.size + 1, 1, none⟩ = some (.slice da dL dc)) (by kernel_rfl) ?_ (fun hHeld => ?_)
      · exact HS.out _ (by (first | exact (Below.refl _ _).drew | exact Below.refl _ _))
      refine takeD (i := 0) (v := ?v1) (some 19) rfl (by kernel_rfl) (by kernel_rfl) (by kernel_rfl) (fun _ _ _ h => h) (Or.inl ⟨by rfl, ?hy1⟩) (by assumption) (by rfl) ?rest1
      case hy1 => first | (intro w hSw; (try dsimp only at hSw); obtain ⟨q0, q1, q2, q3, q4, q5⟩ := hSw; go_simp; done) | (intro w hSw; (try dsimp only at hSw); obtain ⟨q0, q1, q2, q3, q4, q5⟩ := hSw; go_simp; with_reducible rfl)
      try simp only [Act.put, List.setIfInBounds_toArray, List.set_cons_zero, List.set_cons_succ]
      refine takeD (i := 2) (v := ?v2) (some 21) rfl (by kernel_rfl) (by kernel_rfl) (by kernel_rfl) (fun _ _ _ h => h) (Or.inl ⟨by rfl, ?hy2⟩) (by assumption) (by rfl) ?rest2
      case hy2 => first | (intro w hSw; (try dsimp only at hSw); obtain ⟨q0, q1, q2, q3, q4, q5⟩ := hSw; go_simp; done) | (intro w hSw; (try dsimp only at hSw); obtain ⟨q0, q1, q2, q3, q4, q5⟩ := hSw; go_simp; with_reducible rfl)
      try simp only [Act.put, List.setIfInBounds_toArray, List.set_cons_zero, List.set_cons_succ]
      refine takeD (i := 3) (v := ?v3) (some 22) rfl (by kernel_rfl) (by kernel_rfl) (by kernel_rfl) (fun _ _ _ h => h) (Or.inl ⟨by rfl, ?hy3⟩) (by assumption) (by rfl) ?rest3
      case hy3 => first | (intro w hSw; (try dsimp only at hSw); obtain ⟨q0, q1, q2, q3, q4, q5⟩ := hSw; go_simp; done) | (intro w hSw; (try dsimp only at hSw); obtain ⟨q0, q1, q2, q3, q4, q5⟩ := hSw; go_simp; with_reducible rfl)
      try simp only [Act.put, List.setIfInBounds_toArray, List.set_cons_zero, List.set_cons_succ]
      refine takeD (i := 4) (v := ?v4) (some 23) rfl (by kernel_rfl) (by kernel_rfl) (by kernel_rfl) (fun _ _ _ h => h) (Or.inl ⟨by rfl, ?hy4⟩) (by assumption) (by rfl) ?rest4
      case hy4 => first | (intro w hSw; (try dsimp only at hSw); obtain ⟨q0, q1, q2, q3, q4, q5⟩ := hSw; go_simp; done) | (intro w hSw; (try dsimp only at hSw); obtain ⟨q0, q1, q2, q3, q4, q5⟩ := hSw; go_simp; with_reducible rfl)
      try simp only [Act.put, List.setIfInBounds_toArray, List.set_cons_zero, List.set_cons_succ]
      refine takeD (i := 5) (v := ?v5) (some 24) rfl (by kernel_rfl) (by kernel_rfl) (by kernel_rfl) (fun _ _ _ h => h) (Or.inl ⟨by rfl, ?hy5⟩) (by assumption) (by rfl) ?rest5
      case hy5 => first | (intro w hSw; (try dsimp only at hSw); obtain ⟨q0, q1, q2, q3, q4, q5⟩ := hSw; go_simp; done) | (intro w hSw; (try dsimp only at hSw); obtain ⟨q0, q1, q2, q3, q4, q5⟩ := hSw; go_simp; with_reducible rfl)
      try simp only [Act.put, List.setIfInBounds_toArray, List.set_cons_zero, List.set_cons_succ]
      refine takeD (i := 6) (v := ?v6) (some 25) rfl (by kernel_rfl) (by kernel_rfl) (by kernel_rfl) (fun _ _ _ h => h) (Or.inl ⟨by rfl, ?hy6⟩) (by assumption) (by rfl) ?rest6
      case hy6 => first | (intro w hSw; (try dsimp only at hSw); obtain ⟨q0, q1, q2, q3, q4, q5⟩ := hSw; go_simp; done) | (intro w hSw; (try dsimp only at hSw); obtain ⟨q0, q1, q2, q3, q4, q5⟩ := hSw; go_simp; with_reducible rfl)
      try simp only [Act.put, List.setIfInBounds_toArray, List.set_cons_zero, List.set_cons_succ]
      refine takeD (i := 7) (v := ?v7) (some 26) rfl (by kernel_rfl) (by kernel_rfl) (by kernel_rfl) (fun _ _ _ h => h) (Or.inl ⟨by rfl, ?hy7⟩) (by assumption) (by rfl) ?rest7
      case hy7 => first | (intro w hSw; (try dsimp only at hSw); obtain ⟨q0, q1, q2, q3, q4, q5⟩ := hSw; go_simp; done) | (intro w hSw; (try dsimp only at hSw); obtain ⟨q0, q1, q2, q3, q4, q5⟩ := hSw; go_simp; with_reducible rfl)
      try simp only [Act.put, List.setIfInBounds_toArray, List.set_cons_zero, List.set_cons_succ]
      refine takeD (i := 8) (v := ?v8) (some 27) rfl (by kernel_rfl) (by kernel_rfl) (by kernel_rfl) (fun _ _ _ h => h) (Or.inl ⟨by rfl, ?hy8⟩) (by assumption) (by rfl) ?rest8
      case hy8 => first | (intro w hSw; (try dsimp only at hSw); obtain ⟨q0, q1, q2, q3, q4, q5⟩ := hSw; go_simp; done) | (intro w hSw; (try dsimp only at hSw); obtain ⟨q0, q1, q2, q3, q4, q5⟩ := hSw; go_simp; with_reducible rfl)
      try simp only [Act.put, List.setIfInBounds_toArray, List.set_cons_zero, List.set_cons_succ]
      refine takeD (i := 9) (v := ?v9) (some 28) rfl (by kernel_rfl) (by kernel_rfl) (by kernel_rfl) (fun _ _ _ h => h) (Or.inl ⟨by rfl, ?hy9⟩) (by assumption) (by rfl) ?rest9
      case hy9 => first | (intro w hSw; (try dsimp only at hSw); obtain ⟨q0, q1, q2, q3, q4, q5⟩ := hSw; go_simp; done) | (intro w hSw; (try dsimp only at hSw); obtain ⟨q0, q1, q2, q3, q4, q5⟩ := hSw; go_simp; with_reducible rfl)
      try simp only [Act.put, List.setIfInBounds_toArray, List.set_cons_zero, List.set_cons_succ]
      refine takeD (i := 10) (v := ?v10) (some 29) rfl (by kernel_rfl) (by kernel_rfl) (by kernel_rfl) (fun _ _ _ h => h) (Or.inl ⟨by rfl, ?hy10⟩) (by assumption) (by rfl) ?rest10
      case hy10 => first | (intro w hSw; (try dsimp only at hSw); obtain ⟨q0, q1, q2, q3, q4, q5⟩ := hSw; go_simp; done) | (intro w hSw; (try dsimp only at hSw); obtain ⟨q0, q1, q2, q3, q4, q5⟩ := hSw; go_simp; with_reducible rfl)
      try simp only [Act.put, List.setIfInBounds_toArray, List.set_cons_zero, List.set_cons_succ]
      refine takeD (i := 11) (v := ?v11) (some 30) rfl (by kernel_rfl) (by kernel_rfl) (by kernel_rfl) (fun _ _ _ h => h) (Or.inl ⟨by rfl, ?hy11⟩) (by assumption) (by rfl) ?rest11
      case hy11 => first | (intro w hSw; (try dsimp only at hSw); obtain ⟨q0, q1, q2, q3, q4, q5⟩ := hSw; go_simp; done) | (intro w hSw; (try dsimp only at hSw); obtain ⟨q0, q1, q2, q3, q4, q5⟩ := hSw; go_simp; with_reducible rfl)
      try simp only [Act.put, List.setIfInBounds_toArray, List.set_cons_zero, List.set_cons_succ]
      refine takeD (i := 12) (v := ?v12) (some 31) rfl (by kernel_rfl) (by kernel_rfl) (by kernel_rfl) (fun _ _ _ h => h) (Or.inl ⟨by rfl, ?hy12⟩) (by assumption) (by rfl) ?rest12
      case hy12 => first | (intro w hSw; (try dsimp only at hSw); obtain ⟨q0, q1, q2, q3, q4, q5⟩ := hSw; go_simp; done) | (intro w hSw; (try dsimp only at hSw); obtain ⟨q0, q1, q2, q3, q4, q5⟩ := hSw; go_simp; with_reducible rfl)
      try simp only [Act.put, List.setIfInBounds_toArray, List.set_cons_zero, List.set_cons_succ]
      refine takeD (i := 13) (v := ?v13) (some 32) rfl (by kernel_rfl) (by kernel_rfl) (by kernel_rfl) (fun _ _ _ h => h) (Or.inl ⟨by rfl, ?hy13⟩) (by assumption) (by rfl) ?rest13
      case hy13 => first | (intro w hSw; (try dsimp only at hSw); obtain ⟨q0, q1, q2, q3, q4, q5⟩ := hSw; go_simp; done) | (intro w hSw; (try dsimp only at hSw); obtain ⟨q0, q1, q2, q3, q4, q5⟩ := hSw; go_simp; with_reducible rfl)
      try simp only [Act.put, List.setIfInBounds_toArray, List.set_cons_zero, List.set_cons_succ]
      refine takeD (i := 14) (v := ?v14) (some 33) rfl (by kernel_rfl) (by kernel_rfl) (by kernel_rfl) (fun _ _ _ h => h) (Or.inl ⟨by rfl, ?hy14⟩) (by assumption) (by rfl) ?rest14
      case hy14 => first | (intro w hSw; (try dsimp only at hSw); obtain ⟨q0, q1, q2, q3, q4, q5⟩ := hSw; go_simp; done) | (intro w hSw; (try dsimp only at hSw); obtain ⟨q0, q1, q2, q3, q4, q5⟩ := hSw; go_simp; with_reducible rfl)
      try simp only [Act.put, List.setIfInBounds_toArray, List.set_cons_zero, List.set_cons_succ]
      refine wpAnyH_ready (rs := [1, 15]) (by kernel_rfl) (by simp) ?_
      refine AllReadyH.cons rfl (fun K hK => ?_) (AllReadyH.cons rfl (fun K hK => ?_) AllReadyH.nil)
      · have u0 := (HJ.out.box.keep ((Below.refl _ wr).drew)).c2
        go_simp
        refine hK.out _ _ (HS.out _ ((Below.refl _ _).drew)) (fun hHeld => ?_)
        clear hK K
        try simp only [Act.put, List.setIfInBounds_toArray, List.set_cons_zero, List.set_cons_succ]
        clear u0
        refine wpAnyH_ready (rs := [15]) (by kernel_rfl) (by simp) ?_
        refine AllReadyH.cons rfl (fun K hK => ?_) AllReadyH.nil
        go_simp
        refine (HMUL.out _ (by (first | exact (Below.refl _ _).drew | exact Below.refl _ _))).mono ?_
        rintro e w4 ⟨v4, rfl, hr4, hb4⟩
        obtain ⟨rb, ra, rL, rc, rfl⟩ := hr4.form
        have HB4 : Hid (Below wr.heap.size wr w4) := bafter (by (first | exact (Below.refl _ _).drew | exact Below.refl _ _)) hb4 (Nat.le_refl _)
        have HR4 := hide hr4
        clear hr4 hb4 hHeld
        go_wp2_with fail
        refine hK.out _ _ (HS.out _ HB4.out) (fun hHeld => ?_)
        clear hK K
        try simp only [Act.put, List.setIfInBounds_toArray, List.set_cons_zero, List.set_cons_succ]
        refine takeD (i := 16) (v := ?v15) (some 35) rfl (by kernel_rfl) (by kernel_rfl) (by kernel_rfl) (fun _ _ _ h => h) (Or.inl ⟨by rfl, ?hy15⟩) (by assumption) (by rfl) ?rest15
        case hy15 => first | (intro w hSw; (try dsimp only at hSw); obtain ⟨q0, q1, q2, q3, q4, q5⟩ := hSw; go_simp; done) | (intro w hSw; (try dsimp only at hSw); obtain ⟨q0, q1, q2, q3, q4, q5⟩ := hSw; go_simp; with_reducible rfl)
        try simp only [Act.put, List.setIfInBounds_toArray, List.set_cons_zero, List.set_cons_succ]
        refine wpAnyH_ready (rs := [17]) (by kernel_rfl) (by simp) ?_
        refine AllReadyH.cons rfl (fun K hK => ?_) AllReadyH.nil
        go_simp
        have hbl := bel w4 (.cells #[.int .i64 vr, .bool rb, .slice ra rL rc] 79)
        have HB5 := hide (bafter HB4.out hbl (Nat.le_refl _))
        have HBL5 := hide hbl
        have HRL := hide (row_litQ w4 vr rb (.slice ra rL rc) (z * y))
        clear hbl
        generalize hw5 : w4.alloc (.cells #[.int .i64 vr, .bool rb, .slice ra rL rc] 79) = w5 at *
        clear hw5
        refine hK.out _ _ (HS.out _ HB5.out) (fun hHeld => ?_)
        clear hK K hHeld
        try simp only [Act.put, List.setIfInBounds_toArray, List.set_cons_zero, List.set_cons_succ]
        obtain ⟨v6, w6, hrun6, ho6, hg6, ha6, hk6⟩ := run_appQ w5 w1.heap.size 33 _ X (HJ.out.own.below HB5.out) _ [((vr, rb, .slice ra rL rc, z * y) : Pt)] HRL.out (fun m hm => by simp at hm; subst hm; rfl) (by have h1 := HXL.out; simp only [List.length_cons, List.length_nil]; omega) (by have h1 := HJ.out.box.lt; have h2 := HB5.out.size; omega)
        obtain ⟨oa6, oc6, rfl, _, _⟩ := ho6.len
        have hstep := HJ.out.step (p := ((vr, rb, .slice ra rL rc, z * y) : Pt)) HB5.out ho6 hg6 hk6 ⟨HRG.out, HR4.out.below HBL5.out⟩ (fun W9 h9 => ⟨(h9 _ (by have := HN1.out; omega) (HJ.out.own.apart HJ.out.oth.1 (by decide)) HJ.out.oth.1.lt).trans HJ.out.oth.1, (h9 _ (by have := HN1.out; omega) (HJ.out.own.apart HJ.out.oth.2.1 (by decide)) HJ.out.oth.2.1.lt').trans HJ.out.oth.2.1, (h9 _ (by have := HN1.out; omega) (HJ.out.own.apart HJ.out.oth.2.2 (by decide)) HJ.out.oth.2.2.lt).trans HJ.out.oth.2.2⟩)
        have HSTEP := hide hstep
        have HBF := hide (hstep.2.2.2 w.heap.size w (by have := HN1.out; omega) (by have := HN1.out; omega) HBW.out (Nat.le_refl _))
        have h0 : Below w.heap.size w w6 := (bafter HBW.out HB5.out (Nat.le_refl _)).grown hg6 (Nat.le_trans HBW.out.size HB5.out.size) (fun j hj => Nat.le_trans (by have := HN1.out; omega) (HJ.out.own.lt hj).1)
        have HS6 : Hid (let Y := w6; Y.cell? ⟨w.heap.size, 2, none⟩ = some (.slice (some ⟨b, o, none⟩) Ln pc) ∧ Y.cell? ⟨b, o + i * 3, none⟩ = some (.int .i64 vr) ∧ Y.cell? ⟨b, o + i * 3 + 1, none⟩ = some (.bool neg) ∧ Y.cell? ⟨b, o + i * 3 + 2, none⟩ = some (.slice ma mL mc) ∧ Y.cell? ⟨w.heap.size + 1, 0, none⟩ = some (.bool dn) ∧ Y.cell? ⟨w.heap.size + 1, 1, none⟩ = some (.slice da dL dc)) := by
          have h1 : Thr w6 w.heap.size (.bool cn) (.slice ca cL cc) (.slice (some ⟨b, o, none⟩) Ln pc) 35 := ((hstep.2.2.1 _ (by have := HN1.out; omega) (HJ.out.own.apart HJ.out.oth.1 (by decide)) HJ.out.oth.1.lt).2).trans HJ.out.oth.1
          have h5 : Two w6 (w.heap.size + 1) (.bool dn) (.slice da dL dc) 32 := ((hstep.2.2.1 _ (by have := HN1.out; omega) (HJ.out.own.apart HJ.out.oth.2.1 (by decide)) HJ.out.oth.2.1.lt').2).trans HJ.out.oth.2.1
          obtain ⟨h2, h3, h4⟩ := HC.out w6 h0
          exact ⟨h1.c2, h2, h3, h4, h5.c0, h5.c1⟩
        have HS7 : Hid (let Y := w6.setCell ⟨w1.heap.size, 2, none⟩ (.slice oa6 (X ++ [((vr, rb, .slice ra rL rc, z * y) : Pt)]).length oc6); Y.cell? ⟨w.heap.size, 2, none⟩ = some (.slice (some ⟨b, o, none⟩) Ln pc) ∧ Y.cell? ⟨b, o + i * 3, none⟩ = some (.int .i64 vr) ∧ Y.cell? ⟨b, o + i * 3 + 1, none⟩ = some (.bool neg) ∧ Y.cell? ⟨b, o + i * 3 + 2, none⟩ = some (.slice ma mL mc) ∧ Y.cell? ⟨w.heap.size + 1, 0, none⟩ = some (.bool dn) ∧ Y.cell? ⟨w.heap.size + 1, 1, none⟩ = some (.slice da dL dc)) := by
          obtain ⟨h2, h3, h4⟩ := HC.out _ HBF.out
          exact ⟨HSTEP.out.1.oth.1.c2, h2, h3, h4, HSTEP.out.1.oth.2.1.c0, HSTEP.out.1.oth.2.1.c1⟩
        obtain ⟨y0, y1, y2, y3, y4, y5⟩ := hstep.2.1.every
        generalize hxl : (X ++ [((vr, rb, .slice ra rL rc, z * y) : Pt)]).length = xl at *
        have HXL2 := hide hxl
        clear hstep ho6 hg6 ha6 hk6 hxl h0
        refine wpAnyH_ready (rs := [18]) (by kernel_rfl) (by simp) ?_
        refine AllReadyH.cons rfl (fun K hK => ?_) AllReadyH.nil
        refine Lib.wp_append_run _ _ _ _ _ rfl _ _ rfl rfl _ _ hrun6 ?_
        clear hrun6
        refine hK.out _ _ (HS6.out) (fun hHeld => ?_)
        clear hK K
        try simp only [Act.put, List.setIfInBounds_toArray, List.set_cons_zero, List.set_cons_succ]
        refine takeD (i := 19) (v := ?v16) (some 38) rfl (by kernel_rfl) (by kernel_rfl) (by kernel_rfl) (fun _ _ _ h => h) (Or.inl ⟨by rfl, ?hy16⟩) (by assumption) (by rfl) ?rest16
        case hy16 => first | (intro w hSw; (try dsimp only at hSw); obtain ⟨q0, q1, q2, q3, q4, q5⟩ := hSw; go_simp; done) | (intro w hSw; (try dsimp only at hSw); obtain ⟨q0, q1, q2, q3, q4, q5⟩ := hSw; go_simp; with_reducible rfl)
        try simp only [Act.put, List.setIfInBounds_toArray, List.set_cons_zero, List.set_cons_succ]
        refine wpAnyH_ready (rs := [20]) (by kernel_rfl) (by simp) ?_
        refine AllReadyH.cons rfl (fun K hK => ?_) AllReadyH.nil
        go_simp
        refine hK.out _ _ (HS7.out) (fun hHeld => ?_)
        clear hK K hHeld
        try simp only [Act.put, List.setIfInBounds_toArray, List.set_cons_zero, List.set_cons_succ]
        refine wpAnyH_done (by kernel_rfl) ?_ _
        clear y0 y1 y2 y3 y4 y5
        go_wp2
        go_roundw
        case rel =>
          have e9 := HXL2.out
          subst e9
          exact ⟨i + 1, X ++ [((vr, rb, .slice ra rL rc, z * y) : Pt)], _, _, by omega, by go_num, HSTEP.out.1, by rw [ps_append, HPS.out, times_take_step HM.out]; rfl, HBF.out⟩
        case measure => simp [RowKit.intOf]; omega
      · go_simp
        refine (HMUL.out _ (by (first | exact (Below.refl _ _).drew | exact Below.refl _ _))).mono ?_
        rintro e w4 ⟨v4, rfl, hr4, hb4⟩
        obtain ⟨rb, ra, rL, rc, rfl⟩ := hr4.form
        have HB4 : Hid (Below wr.heap.size wr w4) := bafter (by (first | exact (Below.refl _ _).drew | exact Below.refl _ _)) hb4 (Nat.le_refl _)
        have HR4 := hide hr4
        clear hr4 hb4 hHeld
        go_wp2_with fail
        refine hK.out _ _ (HS.out _ HB4.out) (fun hHeld => ?_)
        clear hK K
        try simp only [Act.put, List.setIfInBounds_toArray, List.set_cons_zero, List.set_cons_succ]
        refine takeD (i := 16) (v := ?v19) (some 35) rfl (by kernel_rfl) (by kernel_rfl) (by kernel_rfl) (fun _ _ _ h => h) (Or.inl ⟨by rfl, ?hy19⟩) (by assumption) (by rfl) ?rest19
        case hy19 => first | (intro w hSw; (try dsimp only at hSw); obtain ⟨q0, q1, q2, q3, q4, q5⟩ := hSw; go_simp; done) | (intro w hSw; (try dsimp only at hSw); obtain ⟨q0, q1, q2, q3, q4, q5⟩ := hSw; go_simp; with_reducible rfl)
        try simp only [Act.put, List.setIfInBounds_toArray, List.set_cons_zero, List.set_cons_succ]
        refine wpAnyH_ready (rs := [1, 17]) (by kernel_rfl) (by simp) ?_
        refine AllReadyH.cons rfl (fun K hK => ?_) (AllReadyH.cons rfl (fun K hK => ?_) AllReadyH.nil)
        · have u0 := (HJ.out.box.keep HB4.out).c2
          go_simp
          refine hK.out _ _ (HS.out _ HB4.out) (fun hHeld => ?_)
          clear hK K
          try simp only [Act.put, List.setIfInBounds_toArray, List.set_cons_zero, List.set_cons_succ]
          clear u0
          refine wpAnyH_ready (rs := [17]) (by kernel_rfl) (by simp) ?_
          refine AllReadyH.cons rfl (fun K hK => ?_) AllReadyH.nil
          go_simp
          have hbl := bel w4 (.cells #[.int .i64 vr, .bool rb, .slice ra rL rc] 79)
          have HB5 := hide (bafter HB4.out hbl (Nat.le_refl _))
          have HBL5 := hide hbl
          have HRL := hide (row_litQ w4 vr rb (.slice ra rL rc) (z * y))
          clear hbl
          generalize hw5 : w4.alloc (.cells #[.int .i64 vr, .bool rb, .slice ra rL rc] 79) = w5 at *
          clear hw5
          refine hK.out _ _ (HS.out _ HB5.out) (fun hHeld => ?_)
          clear hK K hHeld
          try simp only [Act.put, List.setIfInBounds_toArray, List.set_cons_zero, List.set_cons_succ]
          obtain ⟨v6, w6, hrun6, ho6, hg6, ha6, hk6⟩ := run_appQ w5 w1.heap.size 33 _ X (HJ.out.own.below HB5.out) _ [((vr, rb, .slice ra rL rc, z * y) : Pt)] HRL.out (fun m hm => by simp at hm; subst hm; rfl) (by have h1 := HXL.out; simp only [List.length_cons, List.length_nil]; omega) (by have h1 := HJ.out.box.lt; have h2 := HB5.out.size; omega)
          obtain ⟨oa6, oc6, rfl, _, _⟩ := ho6.len
          have hstep := HJ.out.step (p := ((vr, rb, .slice ra rL rc, z * y) : Pt)) HB5.out ho6 hg6 hk6 ⟨HRG.out, HR4.out.below HBL5.out⟩ (fun W9 h9 => ⟨(h9 _ (by have := HN1.out; omega) (HJ.out.own.apart HJ.out.oth.1 (by decide)) HJ.out.oth.1.lt).trans HJ.out.oth.1, (h9 _ (by have := HN1.out; omega) (HJ.out.own.apart HJ.out.oth.2.1 (by decide)) HJ.out.oth.2.1.lt').trans HJ.out.oth.2.1, (h9 _ (by have := HN1.out; omega) (HJ.out.own.apart HJ.out.oth.2.2 (by decide)) HJ.out.oth.2.2.lt).trans HJ.out.oth.2.2⟩)
          have HSTEP := hide hstep
          have HBF := hide (hstep.2.2.2 w.heap.size w (by have := HN1.out; omega) (by have := HN1.out; omega) HBW.out (Nat.le_refl _))
          have h0 : Below w.heap.size w w6 := (bafter HBW.out HB5.out (Nat.le_refl _)).grown hg6 (Nat.le_trans HBW.out.size HB5.out.size) (fun j hj => Nat.le_trans (by have := HN1.out; omega) (HJ.out.own.lt hj).1)
          have HS6 : Hid (let Y := w6; Y.cell? ⟨w.heap.size, 2, none⟩ = some (.slice (some ⟨b, o, none⟩) Ln pc) ∧ Y.cell? ⟨b, o + i * 3, none⟩ = some (.int .i64 vr) ∧ Y.cell? ⟨b, o + i * 3 + 1, none⟩ = some (.bool neg) ∧ Y.cell? ⟨b, o + i * 3 + 2, none⟩ = some (.slice ma mL mc) ∧ Y.cell? ⟨w.heap.size + 1, 0, none⟩ = some (.bool dn) ∧ Y.cell? ⟨w.heap.size + 1, 1, none⟩ = some (.slice da dL dc)) := by
            have h1 : Thr w6 w.heap.size (.bool cn) (.slice ca cL cc) (.slice (some ⟨b, o, none⟩) Ln pc) 35 := ((hstep.2.2.1 _ (by have := HN1.out; omega) (HJ.out.own.apart HJ.out.oth.1 (by decide)) HJ.out.oth.1.lt).2).trans HJ.out.oth.1
            have h5 : Two w6 (w.heap.size + 1) (.bool dn) (.slice da dL dc) 32 := ((hstep.2.2.1 _ (by have := HN1.out; omega) (HJ.out.own.apart HJ.out.oth.2.1 (by decide)) HJ.out.oth.2.1.lt').2).trans HJ.out.oth.2.1
            obtain ⟨h2, h3, h4⟩ := HC.out w6 h0
            exact ⟨h1.c2, h2, h3, h4, h5.c0, h5.c1⟩
          have HS7 : Hid (let Y := w6.setCell ⟨w1.heap.size, 2, none⟩ (.slice oa6 (X ++ [((vr, rb, .slice ra rL rc, z * y) : Pt)]).length oc6); Y.cell? ⟨w.heap.size, 2, none⟩ = some (.slice (some ⟨b, o, none⟩) Ln pc) ∧ Y.cell? ⟨b, o + i * 3, none⟩ = some (.int .i64 vr) ∧ Y.cell? ⟨b, o + i * 3 + 1, none⟩ = some (.bool neg) ∧ Y.cell? ⟨b, o + i * 3 + 2, none⟩ = some (.slice ma mL mc) ∧ Y.cell? ⟨w.heap.size + 1, 0, none⟩ = some (.bool dn) ∧ Y.cell? ⟨w.heap.size + 1, 1, none⟩ = some (.slice da dL dc)) := by
            obtain ⟨h2, h3, h4⟩ := HC.out _ HBF.out
            exact ⟨HSTEP.out.1.oth.1.c2, h2, h3, h4, HSTEP.out.1.oth.2.1.c0, HSTEP.out.1.oth.2.1.c1⟩
          obtain ⟨y0, y1, y2, y3, y4, y5⟩ := hstep.2.1.every
          generalize hxl : (X ++ [((vr, rb, .slice ra rL rc, z * y) : Pt)]).length = xl at *
          have HXL2 := hide hxl
          clear hstep ho6 hg6 ha6 hk6 hxl h0
          refine wpAnyH_ready (rs := [18]) (by kernel_rfl) (by simp) ?_
          refine AllReadyH.cons rfl (fun K hK => ?_) AllReadyH.nil
          refine Lib.wp_append_run _ _ _ _ _ rfl _ _ rfl rfl _ _ hrun6 ?_
          clear hrun6
          refine hK.out _ _ (HS6.out) (fun hHeld => ?_)
          clear hK K
          try simp only [Act.put, List.setIfInBounds_toArray, List.set_cons_zero, List.set_cons_succ]
          refine takeD (i := 19) (v := ?v17) (some 38) rfl (by kernel_rfl) (by kernel_rfl) (by kernel_rfl) (fun _ _ _ h => h) (Or.inl ⟨by rfl, ?hy17⟩) (by assumption) (by rfl) ?rest17
          case hy17 => first | (intro w hSw; (try dsimp only at hSw); obtain ⟨q0, q1, q2, q3, q4, q5⟩ := hSw; go_simp; done) | (intro w hSw; (try dsimp only at hSw); obtain ⟨q0, q1, q2, q3, q4, q5⟩ := hSw; go_simp; with_reducible rfl)
          try simp only [Act.put, List.setIfInBounds_toArray, List.set_cons_zero, List.set_cons_succ]
          refine wpAnyH_ready (rs := [20]) (by kernel_rfl) (by simp) ?_
          refine AllReadyH.cons rfl (fun K hK => ?_) AllReadyH.nil
          go_simp
          refine hK.out _ _ (HS7.out) (fun hHeld => ?_)
          clear hK K hHeld
          try simp only [Act.put, List.setIfInBounds_toArray, List.set_cons_zero, List.set_cons_succ]
          refine wpAnyH_done (by kernel_rfl) ?_ _
          clear y0 y1 y2 y3 y4 y5
          go_wp2
          go_roundw
          case rel =>
            have e9 := HXL2.out
            subst e9
            exact ⟨i + 1, X ++ [((vr, rb, .slice ra rL rc, z * y) : Pt)], _, _, by omega, by go_num, HSTEP.out.1, by rw [ps_append, HPS.out, times_take_step HM.out]; rfl, HBF.out⟩
          case measure => simp [RowKit.intOf]; omega
        · go_simp
          have hbl := bel w4 (.cells #[.int .i64 vr, .bool rb, .slice ra rL rc] 79)
          have HB5 := hide (bafter HB4.out hbl (Nat.le_refl _))
          have HBL5 := hide hbl
          have HRL := hide (row_litQ w4 vr rb (.slice ra rL rc) (z * y))
          clear hbl
          generalize hw5 : w4.alloc (.cells #[.int .i64 vr, .bool rb, .slice ra rL rc] 79) = w5 at *
          clear hw5
          refine hK.out _ _ (HS.out _ HB5.out) (fun hHeld => ?_)
          clear hK K hHeld
          try simp only [Act.put, List.setIfInBounds_toArray, List.set_cons_zero, List.set_cons_succ]
          have u0 := (HJ.out.box.keep HB5.out).c2
          refine wpAnyH_ready (rs := [1]) (by kernel_rfl) (by simp) ?_
          refine AllReadyH.cons rfl (fun K hK => ?_) AllReadyH.nil
          go_simp
          refine hK.out _ _ (HS.out _ HB5.out) (fun hHeld => ?_)
          clear hK K hHeld
          try simp only [Act.put, List.setIfInBounds_toArray, List.set_cons_zero, List.set_cons_succ]
          clear u0
          obtain ⟨v6, w6, hrun6, ho6, hg6, ha6, hk6⟩ := run_appQ w5 w1.heap.size 33 _ X (HJ.out.own.below HB5.out) _ [((vr, rb, .slice ra rL rc, z * y) : Pt)] HRL.out (fun m hm => by simp at hm; subst hm; rfl) (by have h1 := HXL.out; simp only [List.length_cons, List.length_nil]; omega) (by have h1 := HJ.out.box.lt; have h2 := HB5.out.size; omega)
          obtain ⟨oa6, oc6, rfl, _, _⟩ := ho6.len
          have hstep := HJ.out.step (p := ((vr, rb, .slice ra rL rc, z * y) : Pt)) HB5.out ho6 hg6 hk6 ⟨HRG.out, HR4.out.below HBL5.out⟩ (fun W9 h9 => ⟨(h9 _ (by have := HN1.out; omega) (HJ.out.own.apart HJ.out.oth.1 (by decide)) HJ.out.oth.1.lt).trans HJ.out.oth.1, (h9 _ (by have := HN1.out; omega) (HJ.out.own.apart HJ.out.oth.2.1 (by decide)) HJ.out.oth.2.1.lt').trans HJ.out.oth.2.1, (h9 _ (by have := HN1.out; omega) (HJ.out.own.apart HJ.out.oth.2.2 (by decide)) HJ.out.oth.2.2.lt).trans HJ.out.oth.2.2⟩)
          have HSTEP := hide hstep
          have HBF := hide (hstep.2.2.2 w.heap.size w (by have := HN1.out; omega) (by have := HN1.out; omega) HBW.out (Nat.le_refl _))
          have h0 : Below w.heap.size w w6 := (bafter HBW.out HB5.out (Nat.le_refl _)).grown hg6 (Nat.le_trans HBW.out.size HB5.out.size) (fun j hj => Nat.le_trans (by have := HN1.out; omega) (HJ.out.own.lt hj).1)
          have HS6 : Hid (let Y := w6; Y.cell? ⟨w.heap.size, 2, none⟩ = some (.slice (some ⟨b, o, none⟩) Ln pc) ∧ Y.cell? ⟨b, o + i * 3, none⟩ = some (.int .i64 vr) ∧ Y.cell? ⟨b, o + i * 3 + 1, none⟩ = some (.bool neg) ∧ Y.cell? ⟨b, o + i * 3 + 2, none⟩ = some (.slice ma mL mc) ∧ Y.cell? ⟨w.heap.size + 1, 0, none⟩ = some (.bool dn) ∧ Y.cell? ⟨w.heap.size + 1, 1, none⟩ = some (.slice da dL dc)) := by
            have h1 : Thr w6 w.heap.size (.bool cn) (.slice ca cL cc) (.slice (some ⟨b, o, none⟩) Ln pc) 35 := ((hstep.2.2.1 _ (by have := HN1.out; omega) (HJ.out.own.apart HJ.out.oth.1 (by decide)) HJ.out.oth.1.lt).2).trans HJ.out.oth.1
            have h5 : Two w6 (w.heap.size + 1) (.bool dn) (.slice da dL dc) 32 := ((hstep.2.2.1 _ (by have := HN1.out; omega) (HJ.out.own.apart HJ.out.oth.2.1 (by decide)) HJ.out.oth.2.1.lt').2).trans HJ.out.oth.2.1
            obtain ⟨h2, h3, h4⟩ := HC.out w6 h0
            exact ⟨h1.c2, h2, h3, h4, h5.c0, h5.c1⟩
          have HS7 : Hid (let Y := w6.setCell ⟨w1.heap.size, 2, none⟩ (.slice oa6 (X ++ [((vr, rb, .slice ra rL rc, z * y) : Pt)]).length oc6); Y.cell? ⟨w.heap.size, 2, none⟩ = some (.slice (some ⟨b, o, none⟩) Ln pc) ∧ Y.cell? ⟨b, o + i * 3, none⟩ = some (.int .i64 vr) ∧ Y.cell? ⟨b, o + i * 3 + 1, none⟩ = some (.bool neg) ∧ Y.cell? ⟨b, o + i * 3 + 2, none⟩ = some (.slice ma mL mc) ∧ Y.cell? ⟨w.heap.size + 1, 0, none⟩ = some (.bool dn) ∧ Y.cell? ⟨w.heap.size + 1, 1, none⟩ = some (.slice da dL dc)) := by
            obtain ⟨h2, h3, h4⟩ := HC.out _ HBF.out
            exact ⟨HSTEP.out.1.oth.1.c2, h2, h3, h4, HSTEP.out.1.oth.2.1.c0, HSTEP.out.1.oth.2.1.c1⟩
          obtain ⟨y0, y1, y2, y3, y4, y5⟩ := hstep.2.1.every
          generalize hxl : (X ++ [((vr, rb, .slice ra rL rc, z * y) : Pt)]).length = xl at *
          have HXL2 := hide hxl
          clear hstep ho6 hg6 ha6 hk6 hxl h0
          refine wpAnyH_ready (rs := [18]) (by kernel_rfl) (by simp) ?_
          refine AllReadyH.cons rfl (fun K hK => ?_) AllReadyH.nil
          refine Lib.wp_append_run _ _ _ _ _ rfl _ _ rfl rfl _ _ hrun6 ?_
          clear hrun6
          refine hK.out _ _ (HS6.out) (fun hHeld => ?_)
          clear hK K
          try simp only [Act.put, List.setIfInBounds_toArray, List.set_cons_zero, List.set_cons_succ]
          refine takeD (i := 19) (v := ?v18) (some 38) rfl (by kernel_rfl) (by kernel_rfl) (by kernel_rfl) (fun _ _ _ h => h) (Or.inl ⟨by rfl, ?hy18⟩) (by assumption) (by rfl) ?rest18
          case hy18 => first | (intro w hSw; (try dsimp only at hSw); obtain ⟨q0, q1, q2, q3, q4, q5⟩ := hSw; go_simp; done) | (intro w hSw; (try dsimp only at hSw); obtain ⟨q0, q1, q2, q3, q4, q5⟩ := hSw; go_simp; with_reducible rfl)
          try simp only [Act.put, List.setIfInBounds_toArray, List.set_cons_zero, List.set_cons_succ]
          refine wpAnyH_ready (rs := [20]) (by kernel_rfl) (by simp) ?_
          refine AllReadyH.cons rfl (fun K hK => ?_) AllReadyH.nil
          go_simp
          refine hK.out _ _ (HS7.out) (fun hHeld => ?_)
          clear hK K hHeld
          try simp only [Act.put, List.setIfInBounds_toArray, List.set_cons_zero, List.set_cons_succ]
          refine wpAnyH_done (by kernel_rfl) ?_ _
          clear y0 y1 y2 y3 y4 y5
          go_wp2
          go_roundw
          case rel =>
            have e9 := HXL2.out
            subst e9
            exact ⟨i + 1, X ++ [((vr, rb, .slice ra rL rc, z * y) : Pt)], _, _, by omega, by go_num, HSTEP.out.1, by rw [ps_append, HPS.out, times_take_step HM.out]; rfl, HBF.out⟩
          case measure => simp [RowKit.intOf]; omega
    · obtain rfl : i = Ln := by omega
      have d1 : ¬ (i : Int) < (i : Int) := by omega
      have HBX : Hid (BndT (K + K) (times y (ps M))) := bndT_times HBD.out HY.out
      have htz := HJ.out.oth.2.2
      have HTZ := hide htz
      obtain ⟨x0, x1, x2, _, _, _⟩ := HJ.out.box.every
      have hrt : RTerm wr (.agg #[.bool nb, .slice na nL nc, .slice oa X.length oc]) (c * y) X := ⟨_, _, _, _, _, _, _, rfl, HJ.out.num, HJ.out.own.row, HJ.out.good⟩
      have hpx : ps X = times y (ps M) := by
        rw [HPS.out, List.take_of_length_le (by rw [HLN.out]; omega)]
      have hno := rnormT_calls (K := K + K) hrt HCY.out (by rw [hpx]; exact HBX.out) (by have h1 := congrArg List.length hpx; rw [times_length, ps_length, ps_length] at h1; have := HLN.out; omega) (by omega)
      have HPX := hide hpx
      generalize hxl : X.length = xl at *
      clear htz hxl hrt hpx
      go_wp2_with fail
      refine hno.mono ?_
      rintro e w7 ⟨v7, M7, rfl, ht7, ⟨hn7, hc7⟩, hb7⟩
      obtain ⟨fn, fa, fL, fc, ta, tl, tc, rfl⟩ := ht7.form
      have TZ7 := hide (HTZ.out.keep hb7)
      have HB7 := hide (bafter HBW.out hb7 (Nat.le_refl _))
      have HT7 := hide ht7
      have HN7 := hide hn7
      have HC7 := hide hc7
      obtain ⟨z0, z1, z2, f0, f1, f2⟩ := TZ7.out.every
      clear hno ht7 hn7 hc7 hb7 x0 x1 x2 c0 c1 c2
      go_wp2
      refine bodyPost_ret (results_rterm rfl rfl (TZ7.out.put _ _ _)) rfl ?_
      exact ⟨_, M7, rfl, HT7.out.but (TZ7.out.but _ _ _), ⟨HN7.out, fun x => by rw [HC7.out, HPX.out, times, cf_scale]⟩, put3_below HB7.out (by omega) _ _ _⟩

end Go.Proofs.YtbjolmgobeagoaaGreatDoor
