/- The reference's Coef. -/
import Derived.Test.YtbjolmgobeagoaaGreatDoorLnOf
import Derived.Test.YtbjolmgobeagoaaGreatDoorLnCoef
namespace Go.Proofs.YtbjolmgobeagoaaGreatDoor
set_option linter.unusedVariables false
set_option linter.unusedSimpArgs false
set_option maxRecDepth 100000
open Go Go.RowKit Go.Shelf Go.Lib

theorem ten_add {x y : Int} {k : Nat} (h : x.natAbs < 10 ^ k) (g : y.natAbs < 10 ^ k) : (x + y).natAbs < 10 ^ (k + 1) := by
  have h1 := Int.natAbs_add_le x y
  have h2 : (10 : Nat) ^ (k + 1) = 10 ^ k * 10 := rfl
  omega
theorem ten_up {n k j : Nat} (h : n < 10 ^ k) (hj : k ≤ j) : n < 10 ^ j := Nat.lt_of_lt_of_le h (Nat.pow_le_pow_right (by decide) hj)
theorem cf_boundT {K : Nat} {l : Ps} (h : BndT K l) (v : Int) : (cf v l).natAbs < 10 ^ (K + l.length) := by
  induction l with
  | nil => exact Nat.pow_pos (by decide)
  | cons p r ih =>
    have h1 := ih (fun q hq => h q (by simp [hq]))
    have h2 : (if p.1 = v then p.2 else 0).natAbs < 10 ^ (K + r.length) := by
      split
      · exact ten_up (h p (by simp)) (by omega)
      · exact Nat.pow_pos (by decide)
    rw [cf_cons, List.length_cons, ← Nat.add_assoc]
    exact ten_add h2 h1
theorem bndT_take {K : Nat} {M : List Pt} {i : Nat} (h : BndT K (ps M)) : BndT K (ps (M.take i)) := fun p hp => h p (by
  unfold ps at hp ⊢
  rw [List.map_take] at hp
  exact List.mem_of_mem_take hp)
def RCoefE (w : World) (z : Int) (e : Ending) (w' : World) : Prop := ∃ rv, e = .returned rv ∧ NRes w' rv z ∧ Below w.heap.size w w'
theorem nres_zero (W : World) : NRes W (.agg #[.bool false, .slice none 0 0]) 0 := ⟨_, rfl, ⟨[], ⟨none, 0, rfl, Nat.le_refl _, Small.nil _, fun j hj => by simp at hj⟩, canon_nil 10, rfl⟩⟩

set_option maxHeartbeats 4000000 in
theorem rcoef_calls {K : Nat} {w : World} {v : Value} {c : Int} {M : List Pt} (h : RTerm w v c M) (x : Int) (hb : BndT K (ps M)) (hl : M.length ≤ 100) (hK : K ≤ 700) :
    Calls Tryz.prog 21 #[v, .int .i64 x] w fun e w' => RCoefE w (cf x (ps M)) e w' := by
  obtain ⟨cn, ca, cL, cc, pa, pl, pc, rfl, h1, hr, hg⟩ := h
  obtain ⟨_, _, e, _, _, h3⟩ := hr
  simp only [Value.slice.injEq] at e
  obtain ⟨rfl, rfl, rfl⟩ := e
  generalize hLn : M.length = Ln at *
  have HLN := hide hLn
  have H3 := hide h3
  have HG := hide hg
  have HBD := hide hb
  have tb := ((Thr.new w (.bool cn) (.slice ca cL cc) (.slice pa Ln pc) 35).alloc (.cells #[.bool false, .slice none 0 0] 32)).alloc (.cells #[.bool false, .slice none 0 0] 32)
  have tr := (Two.new1 w (.cells #[.bool cn, .slice ca cL cc, .slice pa Ln pc] 35) (.bool false) (.slice none 0 0) 32).alloc (.cells #[.bool false, .slice none 0 0] 32)
  have ts := Two.new ((w.alloc (.cells #[.bool cn, .slice ca cL cc, .slice pa Ln pc] 35)).alloc (.cells #[.bool false, .slice none 0 0] 32)) (.bool false) (.slice none 0 0) 32
  rw [World.size_alloc, World.size_alloc] at ts
  have hba := bel3 w (.cells #[.bool cn, .slice ca cL cc, .slice pa Ln pc] 35) (.cells #[.bool false, .slice none 0 0] 32) (.cells #[.bool false, .slice none 0 0] 32)
  generalize hwA : ((w.alloc (.cells #[.bool cn, .slice ca cL cc, .slice pa Ln pc] 35)).alloc (.cells #[.bool false, .slice none 0 0] 32)).alloc (.cells #[.bool false, .slice none 0 0] 32) = wA at *
  have HWA := hide hwA
  have TB := hide tb
  have TR := hide tr
  have TS := hide ts
  have HBA := hide hba
  clear hwA tr ts hba h1 h3 hg hLn tb hb
  go_enter Tryz.func21, Tryz.ntmps21
  go_upto_region 2 with fail
  rw [HWA.out]
  go_wp2
  go_loopw [6] (fun iv wr => ∃ (i : Nat) (sn : Bool) (sa : Option Addr) (sL sc : Nat), i ≤ Ln ∧ iv = .int .i64 (i : Int) ∧ Two wr (w.heap.size + 1 + 1) (.bool sn) (.slice sa sL sc) 32 ∧ NRes wr (.agg #[.bool sn, .slice sa sL sc]) (cf x (ps (M.take i))) ∧ Two wr (w.heap.size + 1) (.bool false) (.slice none 0 0) 32 ∧ Thr wr w.heap.size (.bool cn) (.slice ca cL cc) (.slice pa Ln pc) 35 ∧ Below w.heap.size w wr) (fun iv _ => Ln - (RowKit.intOf iv).toNat)
  case atStart => exact ⟨0, _, _, _, _, Nat.zero_le _, rfl, TS.out, nres_zero _, TR.out, TB.out, HBA.out⟩
  case round =>
    obtain ⟨i, sn, sa, sL, sc, hi, rfl, hts, hbr, htr, htb, hbw⟩ := hrel
    obtain ⟨t0, t1, t2, _, _, _⟩ := htb.every
    have HTB := hide htb
    clear htb
    by_cases hlt : i < Ln
    · obtain ⟨⟨vr, neg, mv, z⟩, hm⟩ : ∃ m, M[i]? = some m := ⟨_, List.getElem?_eq_getElem (by rw [HLN.out]; exact hlt)⟩
      obtain ⟨ma, mL, mc, e⟩ := HG.out.sl _ (List.mem_of_getElem? hm)
      simp only at e
      subst e
      obtain ⟨b, o, rfl, hc⟩ := H3.out i _ hm
      have HC : Hid (∀ W, Below w.heap.size w W → CellsP W b (o + i * 3) (vr, neg, .slice ma mL mc, z)) := fun W h => hc.below h
      obtain ⟨c0, c1, c2⟩ := hc.below hbw
      dsimp only at c0 c1 c2
      have d1 : (i : Int) < (Ln : Int) := by omega
      have d0 : (0 : Int) ≤ (i : Int) := by omega
      have HM := hide hm
      have HTS := hide hts
      have HTR := hide htr
      have HBW := hide hbw
      have HBR := hide hbr
      have hzb : z.natAbs < 10 ^ K := HBD.out (vr, z) (List.mem_map.2 ⟨_, List.mem_of_getElem? hm, rfl⟩)
      have hsb : (cf x (ps (M.take i))).natAbs < 10 ^ (K + 100) := ten_up (cf_boundT (bndT_take HBD.out) x) (by rw [ps_length, List.length_take]; omega)
      have hga := (HG.out _ (List.mem_of_getElem? hm)).2
      have HADD := hide (fun (W : World) (h : Below wr.heap.size wr W) => rnadd_calls (K := K + 100) ((hbr.below h).arg hsb) ((hga.below (bafter hbw h (Nat.le_refl _))).arg (ten_up hzb (by omega))) (by omega))
      clear hts hbr htr hbw hm hc hga hsb hzb
      by_cases hv : vr = x
      · subst hv
        have HS : Hid (∀ Y : World, Below wr.heap.size wr Y → Y.cell? ⟨w.heap.size, 2, none⟩ = some (.slice (some ⟨b, o, none⟩) Ln pc) ∧ Y.cell? ⟨b, o + i * 3 + 1, none⟩ = some (.bool neg) ∧ Y.cell? ⟨b, o + i * 3 + 2, none⟩ = some (.slice ma mL mc)) := fun Y hY => by
          obtain ⟨h2, h3, h4⟩ := HC.out Y (bafter HBW.out hY (Nat.le_refl _))
          exact ⟨(HTB.out.keep hY).c2, h3, h4⟩
        go_upto_region 6 with fail
        refine wp_region_held_drew (S := fun Y : World => Y.cell? ⟨w.heap.size, 2, none⟩ = some (.slice (some ⟨b, o, none⟩) Ln pc) ∧ Y.cell? ⟨b, o + i * 3 + 1, none⟩ = some (.bool neg) ∧ Y.cell? ⟨b, o + i * 3 + 2, none⟩ = some (.slice ma mL mc)) (by kernel_rfl) ?_ (fun hHeld => ?_)
        · exact HS.out _ (by (first | exact (Below.refl _ _).drew | exact Below.refl _ _))
        refine takeD (i := 1) (v := ?v1) (some 24) rfl (by kernel_rfl) (by kernel_rfl) (by kernel_rfl) (fun _ _ _ h => h) (Or.inl ⟨by rfl, ?hy1⟩) (by assumption) (by rfl) ?rest1
        case hy1 => first | (intro w hSw; (try dsimp only at hSw); obtain ⟨q0, q1, q2⟩ := hSw; go_simp; done) | (intro w hSw; (try dsimp only at hSw); obtain ⟨q0, q1, q2⟩ := hSw; go_simp; with_reducible rfl)
        try simp only [Act.put, List.setIfInBounds_toArray, List.set_cons_zero, List.set_cons_succ]
        refine takeD (i := 2) (v := ?v2) (some 25) rfl (by kernel_rfl) (by kernel_rfl) (by kernel_rfl) (fun _ _ _ h => h) (Or.inl ⟨by rfl, ?hy2⟩) (by assumption) (by rfl) ?rest2
        case hy2 => first | (intro w hSw; (try dsimp only at hSw); obtain ⟨q0, q1, q2⟩ := hSw; go_simp; done) | (intro w hSw; (try dsimp only at hSw); obtain ⟨q0, q1, q2⟩ := hSw; go_simp; with_reducible rfl)
        try simp only [Act.put, List.setIfInBounds_toArray, List.set_cons_zero, List.set_cons_succ]
        refine takeD (i := 3) (v := ?v3) (some 26) rfl (by kernel_rfl) (by kernel_rfl) (by kernel_rfl) (fun _ _ _ h => h) (Or.inl ⟨by rfl, ?hy3⟩) (by assumption) (by rfl) ?rest3
        case hy3 => first | (intro w hSw; (try dsimp only at hSw); obtain ⟨q0, q1, q2⟩ := hSw; go_simp; done) | (intro w hSw; (try dsimp only at hSw); obtain ⟨q0, q1, q2⟩ := hSw; go_simp; with_reducible rfl)
        try simp only [Act.put, List.setIfInBounds_toArray, List.set_cons_zero, List.set_cons_succ]
        refine takeD (i := 4) (v := ?v4) (some 27) rfl (by kernel_rfl) (by kernel_rfl) (by kernel_rfl) (fun _ _ _ h => h) (Or.inl ⟨by rfl, ?hy4⟩) (by assumption) (by rfl) ?rest4
        case hy4 => first | (intro w hSw; (try dsimp only at hSw); obtain ⟨q0, q1, q2⟩ := hSw; go_simp; done) | (intro w hSw; (try dsimp only at hSw); obtain ⟨q0, q1, q2⟩ := hSw; go_simp; with_reducible rfl)
        try simp only [Act.put, List.setIfInBounds_toArray, List.set_cons_zero, List.set_cons_succ]
        refine takeD (i := 5) (v := ?v5) (some 28) rfl (by kernel_rfl) (by kernel_rfl) (by kernel_rfl) (fun _ _ _ h => h) (Or.inl ⟨by rfl, ?hy5⟩) (by assumption) (by rfl) ?rest5
        case hy5 => first | (intro w hSw; (try dsimp only at hSw); obtain ⟨q0, q1, q2⟩ := hSw; go_simp; done) | (intro w hSw; (try dsimp only at hSw); obtain ⟨q0, q1, q2⟩ := hSw; go_simp; with_reducible rfl)
        try simp only [Act.put, List.setIfInBounds_toArray, List.set_cons_zero, List.set_cons_succ]
        refine takeD (i := 6) (v := ?v6) (some 29) rfl (by kernel_rfl) (by kernel_rfl) (by kernel_rfl) (fun _ _ _ h => h) (Or.inl ⟨by rfl, ?hy6⟩) (by assumption) (by rfl) ?rest6
        case hy6 => first | (intro w hSw; (try dsimp only at hSw); obtain ⟨q0, q1, q2⟩ := hSw; go_simp; done) | (intro w hSw; (try dsimp only at hSw); obtain ⟨q0, q1, q2⟩ := hSw; go_simp; with_reducible rfl)
        try simp only [Act.put, List.setIfInBounds_toArray, List.set_cons_zero, List.set_cons_succ]
        obtain ⟨s0, s1, _, _, _, _⟩ := (HTS.out.keep ((Below.refl _ wr).drew)).every
        refine wpAnyH_ready (rs := [0]) (by kernel_rfl) (by simp) ?_
        refine AllReadyH.cons rfl (fun K hK => ?_) AllReadyH.nil
        go_simp
        refine hK.out _ _ (HS.out _ ((Below.refl _ _).drew)) (fun hHeld => ?_)
        clear hK K
        try simp only [Act.put, List.setIfInBounds_toArray, List.set_cons_zero, List.set_cons_succ]
        clear s0 s1
        refine wpAnyH_ready (rs := [7]) (by kernel_rfl) (by simp) ?_
        refine AllReadyH.cons rfl (fun K hK => ?_) AllReadyH.nil
        go_simp
        refine (HADD.out _ (by (first | exact (Below.refl _ _).drew | exact Below.refl _ _))).mono ?_
        rintro e w4 ⟨v4, rfl, hr4, hb4⟩
        obtain ⟨rb, ra, rL, rc, rfl⟩ := hr4.form
        have HB4 : Hid (Below wr.heap.size wr w4) := bafter (by (first | exact (Below.refl _ _).drew | exact Below.refl _ _)) hb4 (Nat.le_refl _)
        have HR4 := hide hr4
        clear hr4 hb4 hHeld
        go_wp2_with fail
        refine hK.out _ _ (HS.out _ HB4.out) (fun hHeld => ?_)
        clear hK K
        try simp only [Act.put, List.setIfInBounds_toArray, List.set_cons_zero, List.set_cons_succ]
        have HT4 := hide (HTS.out.keep HB4.out)
        obtain ⟨p0, p1, p2, p3, _, _⟩ := HT4.out.every
        have HBF := hide (below_put (bafter HBW.out HB4.out (Nat.le_refl _)) (show w.heap.size ≤ w.heap.size + 1 + 1 by omega) (.bool rb) (.slice ra rL rc))
        have HTB5 : Hid (Thr ((w4.setCell ⟨w.heap.size + 1 + 1, 0, none⟩ (.bool rb)).setCell ⟨w.heap.size + 1 + 1, 1, none⟩ (.slice ra rL rc)) w.heap.size (.bool cn) (.slice ca cL cc) (.slice (some ⟨b, o, none⟩) Ln pc) 35) := ((HT4.out.but (.bool rb) (.slice ra rL rc)).same _ (by omega)).trans (HTB.out.keep HB4.out)
        have HS5 : Hid (let Y := (w4.setCell ⟨w.heap.size + 1 + 1, 0, none⟩ (.bool rb)).setCell ⟨w.heap.size + 1 + 1, 1, none⟩ (.slice ra rL rc); Y.cell? ⟨w.heap.size, 2, none⟩ = some (.slice (some ⟨b, o, none⟩) Ln pc) ∧ Y.cell? ⟨b, o + i * 3 + 1, none⟩ = some (.bool neg) ∧ Y.cell? ⟨b, o + i * 3 + 2, none⟩ = some (.slice ma mL mc)) := by
          obtain ⟨h2, h3, h4⟩ := HC.out _ HBF.out
          exact ⟨HTB5.out.c2, h3, h4⟩
        refine wpAnyH_ready (rs := [8]) (by kernel_rfl) (by simp) ?_
        refine AllReadyH.cons rfl (fun K hK => ?_) AllReadyH.nil
        go_simp
        refine hK.out _ _ (HS5.out) (fun hHeld => ?_)
        clear hK K hHeld
        try simp only [Act.put, List.setIfInBounds_toArray, List.set_cons_zero, List.set_cons_succ]
        refine wpAnyH_done (by kernel_rfl) ?_ _
        clear p0 p1 p2 p3
        go_wp2
        go_roundw
        case rel =>
          refine ⟨i + 1, _, _, _, _, by omega, by go_num, HT4.out.put _ _, ?_, (HTR.out.keep HB4.out).other (by omega) _ _, HTB5.out, HBF.out⟩
          rw [cf_take_step HM.out, if_pos rfl]
          exact HR4.out.put HT4.out _ _
        case measure => simp [RowKit.intOf]; omega
      · have qe : (vr == x) = false := beq_eq_false_iff_ne.2 hv
        have HV := hide hv
        clear hv HADD
        go_wp2
        go_roundw
        case rel =>
          refine ⟨i + 1, _, _, _, _, by omega, by go_num, HTS.out, ?_, HTR.out, HTB.out, HBW.out⟩
          rw [cf_take_step HM.out, if_neg HV.out, Int.add_zero]
          exact HBR.out
        case measure => simp [RowKit.intOf]; omega
    · obtain rfl : i = Ln := by omega
      have d1 : ¬ (i : Int) < (i : Int) := by omega
      obtain ⟨s0, s1, _, _, _, _⟩ := hts.every
      obtain ⟨r0, r1, r2, r3, _, _⟩ := htr.every
      have HTR := hide htr
      have HBW := hide hbw
      have HBR := hide hbr
      clear hts htr hbw hbr
      go_wp2
      refine bodyPost_ret (results_num rfl rfl (HTR.out.put _ _)) rfl ?_
      refine ⟨_, rfl, ?_, below_put HBW.out (by omega) _ _⟩
      have h1 := HBR.out
      rw [List.take_of_length_le (by rw [HLN.out]; omega)] at h1
      exact h1.put HTR.out _ _

end Go.Proofs.YtbjolmgobeagoaaGreatDoor
