/- The law LinearEvals, walked. -/
import Derived.Test.YtkdhcpfmlelfcaaGreatDoorLnP4
namespace Go.Proofs.YtkdhcpfmlelfcaaGreatDoor
set_option linter.unusedVariables false
set_option linter.unusedSimpArgs false
set_option maxRecDepth 100000
open Go Go.RowKit Go.Shelf Go.Lib

set_option maxHeartbeats 8000000 in
theorem levals_calls (w : World) (v0 v1 : Value) {an : Bool} {aa : Option Addr} {aL ac : Nat} {ap : Option Addr} {al ak : Nat} {A : List Pt} {la : Option Addr} {ll lc : Nat} {L : List Pt}
    (h : TermI w v0 an aa aL ac ap al ak A) (g : BindI w v1 la ll lc L) (htab : TabIs Tryz.prog w "internal/strconv.uint64pow10" .u64 pow10Tab) :
    Calls Tryz.prog 5 #[v0, v1] w fun e w' => e = .returned (.bool true) ∧ Below w.heap.size w w' := by
  have e0 := h.1
  have e2 := g.1
  subst e0 e2
  have tb := Thr.new w (.bool an) (.slice aa aL ac) (.slice ap al ak) 27
  have hba := bel w (.cells #[.bool an, .slice aa aL ac, .slice ap al ak] 27)
  generalize hwA : w.alloc (.cells #[.bool an, .slice aa aL ac, .slice ap al ak] 27) = wA at *
  have hbi := g.calls hba
  have HWA := hide hwA
  have TB := hide tb
  have HBA := hide hba
  have HA := hide h
  have HL := hide g
  have HTAB := hide htab
  clear hwA tb hba h g htab
  go_enter Tryz.func5, Tryz.ntmps5
  go_upto_region 1 with fail
  rw [HWA.out]
  go_wp2_with fail
  refine hbi.mono ?_
  rintro e w1 ⟨xa, xl, xc, ok, rfl, hok, hrx, hb1⟩
  have HW1 := hide (bafter HBA.out hb1 (Nat.le_refl _))
  cases ok with
  | false =>
    have hsm := summed_calls w1 (tab_keep HTAB.out HW1.out)
    clear hbi hok hrx hb1
    go_wp2_with fail
    refine hsm.mono ?_
    rintro e w2 ⟨rfl, hb2⟩
    have HW2 := hide (bafter HW1.out hb2 (Nat.le_refl _))
    clear hsm hb2
    go_wp2
    go_ret
    exact ⟨rfl, HW2.out⟩
  | true =>
    obtain ⟨X, hrow, hgx, hpx⟩ := hrx rfl
    have HRX1 := hide hrow
    have HGX1 := hide hgx
    have HPX := hide hpx
    have HLB := hide (HL.out.both (hok.1 rfl))
    have TB1 := hide (TB.out.keep hb1)
    obtain ⟨x0, x1, x2, _, _, _⟩ := TB1.out.every
    have hlt := HA.out.light HW1.out
    clear hbi hok hrx hb1 hrow hgx hpx
    go_wp2_with fail
    refine hlt.mono ?_
    rintro e w2 ⟨r2, rfl, hl2, hb2⟩
    have HW2 := hide (bafter HW1.out hb2 (Nat.le_refl _))
    cases r2 with
    | false =>
      have hsm := summed_calls w2 (tab_keep HTAB.out HW2.out)
      clear hlt hl2 hb2 x0 x1 x2
      go_wp2_with fail
      refine hsm.mono ?_
      rintro e w3 ⟨rfl, hb3⟩
      have HW3 := hide (bafter HW2.out hb3 (Nat.le_refl _))
      clear hsm hb3
      go_wp2
      go_ret
      exact ⟨rfl, HW3.out⟩
    | true =>
      obtain ⟨c, hbo⟩ := HA.out.both (hl2.1 rfl)
      have HBO := hide hbo
      have TB2 := hide (TB1.out.keep hb2)
      have HRX := HRX1
      have HGX := HGX1
      have HB12 := hide hb2
      obtain ⟨K9, hK9⟩ : ∃ K9, K9 = 400 := ⟨_, rfl⟩
      have HZB : Hid ((c + ev (lookZ L) (ps A)).natAbs < 10 ^ K9) := by
        have h9 : (ps A).length ≤ 12 := by rw [ps_length]; exact hbo.len
        have h8 := ten_up (ev_bndT (lookZ_bndT HLB.out.bndT) hbo.bnd) (show _ ≤ 300 by omega)
        exact ten_up (ten_add (ten_up hbo.cb (show 80 ≤ 300 by omega)) h8) (by omega)
      clear hlt hl2 hb2 x0 x1 x2 hbo
      have HS : Hid (∀ X : World, Below w2.heap.size w2 X → X.cell? ⟨w.heap.size, 0, none⟩ = some (.bool an) ∧ X.cell? ⟨w.heap.size, 1, none⟩ = some (.slice aa aL ac) ∧ X.cell? ⟨w.heap.size, 2, none⟩ = some (.slice ap al ak)) := fun X hX => ⟨(TB2.out.keep hX).c0, (TB2.out.keep hX).c1, (TB2.out.keep hX).c2⟩
      go_upto_region 4 with fail
      refine wp_region_held_drew (S := fun X : World => X.cell? ⟨w.heap.size, 0, none⟩ = some (.bool an) ∧ X.cell? ⟨w.heap.size, 1, none⟩ = some (.slice aa aL ac) ∧ X.cell? ⟨w.heap.size, 2, none⟩ = some (.slice ap al ak)) (by kernel_rfl) ?_ (fun hHeld => ?_)
      · exact HS.out _ (by (first | exact (Below.refl _ _).drew | exact Below.refl _ _))
      refine wpAnyH_ready (rs := [0]) (by kernel_rfl) (by simp) ?_
      refine AllReadyH.cons rfl (fun K hK => ?_) AllReadyH.nil
      go_simp
      refine (summed_calls _ (tab_keep HTAB.out (bafter HW2.out (by (first | exact (Below.refl _ _).drew | exact Below.refl _ _)) (Nat.le_refl _)))).mono ?_
      rintro e w3 ⟨rfl, hb3⟩
      have HB3 : Hid (Below w2.heap.size w2 w3) := bafter (by (first | exact (Below.refl _ _).drew | exact Below.refl _ _)) hb3 (Nat.le_refl _)
      clear hb3 hHeld
      go_wp2_with fail
      refine hK.out _ _ (HS.out _ HB3.out) (fun hHeld => ?_)
      clear hK K
      try simp only [Act.put, List.setIfInBounds_toArray, List.set_cons_zero, List.set_cons_succ]
      refine takeD (i := 1) (v := ?v1) (some 21) rfl (by kernel_rfl) (by kernel_rfl) (by kernel_rfl) (fun _ _ _ h => h) (Or.inl ⟨by rfl, ?hy1⟩) (by assumption) (by rfl) ?rest1
      case hy1 => first | (intro w hSw; (try dsimp only at hSw); obtain ⟨q0, q1, q2⟩ := hSw; go_simp; done) | (intro w hSw; (try dsimp only at hSw); obtain ⟨q0, q1, q2⟩ := hSw; go_simp; with_reducible rfl)
      try simp only [Act.put, List.setIfInBounds_toArray, List.set_cons_zero, List.set_cons_succ]
      refine takeD (i := 2) (v := ?v2) (some 22) rfl (by kernel_rfl) (by kernel_rfl) (by kernel_rfl) (fun _ _ _ h => h) (Or.inl ⟨by rfl, ?hy2⟩) (by assumption) (by rfl) ?rest2
      case hy2 => first | (intro w hSw; (try dsimp only at hSw); obtain ⟨q0, q1, q2⟩ := hSw; go_simp; done) | (intro w hSw; (try dsimp only at hSw); obtain ⟨q0, q1, q2⟩ := hSw; go_simp; with_reducible rfl)
      try simp only [Act.put, List.setIfInBounds_toArray, List.set_cons_zero, List.set_cons_succ]
      refine takeD (i := 3) (v := ?v3) (some 23) rfl (by kernel_rfl) (by kernel_rfl) (by kernel_rfl) (fun _ _ _ h => h) (Or.inl ⟨by rfl, ?hy3⟩) (by assumption) (by rfl) ?rest3
      case hy3 => first | (intro w hSw; (try dsimp only at hSw); obtain ⟨q0, q1, q2⟩ := hSw; go_simp; done) | (intro w hSw; (try dsimp only at hSw); obtain ⟨q0, q1, q2⟩ := hSw; go_simp; with_reducible rfl)
      try simp only [Act.put, List.setIfInBounds_toArray, List.set_cons_zero, List.set_cons_succ]
      refine takeD (i := 5) (v := ?v4) (some 25) rfl (by kernel_rfl) (by kernel_rfl) (by kernel_rfl) (fun _ _ _ h => h) (Or.inl ⟨by rfl, ?hy4⟩) (by assumption) (by rfl) ?rest4
      case hy4 => first | (intro w hSw; (try dsimp only at hSw); obtain ⟨q0, q1, q2⟩ := hSw; go_simp; done) | (intro w hSw; (try dsimp only at hSw); obtain ⟨q0, q1, q2⟩ := hSw; go_simp; with_reducible rfl)
      try simp only [Act.put, List.setIfInBounds_toArray, List.set_cons_zero, List.set_cons_succ]
      refine takeD (i := 7) (v := ?v5) (some 27) rfl (by kernel_rfl) (by kernel_rfl) (by kernel_rfl) (fun _ _ _ h => h) (Or.inl ⟨by rfl, ?hy5⟩) (by assumption) (by rfl) ?rest5
      case hy5 => first | (intro w hSw; (try dsimp only at hSw); obtain ⟨q0, q1, q2⟩ := hSw; go_simp; done) | (intro w hSw; (try dsimp only at hSw); obtain ⟨q0, q1, q2⟩ := hSw; go_simp; with_reducible rfl)
      try simp only [Act.put, List.setIfInBounds_toArray, List.set_cons_zero, List.set_cons_succ]
      refine wpAnyH_ready (rs := [4]) (by kernel_rfl) (by simp) ?_
      refine AllReadyH.cons rfl (fun K hK => ?_) AllReadyH.nil
      go_simp
      refine (eval_calls (HBO.out.term.below (bafter HW2.out HB3.out (Nat.le_refl _))) (HLB.out.row.below (bafter HW2.out HB3.out (Nat.le_refl _))) (HLB.out.good.below (bafter HW2.out HB3.out (Nat.le_refl _))) HLB.out.bnd (by have := HLB.out.len; omega) (by omega)).mono ?_
      rintro e w4 ⟨v4, rfl, hr4, hb4⟩
      obtain ⟨en, ea, eL, ec, rfl⟩ := hr4.form
      have HB4 : Hid (Below w2.heap.size w2 w4) := bafter HB3.out hb4 (Nat.le_refl _)
      have HR4 := hide hr4
      clear hr4 hb4 hHeld
      go_wp2_with fail
      refine hK.out _ _ (HS.out _ HB4.out) (fun hHeld => ?_)
      clear hK K
      try simp only [Act.put, List.setIfInBounds_toArray, List.set_cons_zero, List.set_cons_succ]
      refine wpAnyH_ready (rs := [6]) (by kernel_rfl) (by simp) ?_
      refine AllReadyH.cons rfl (fun K hK => ?_) AllReadyH.nil
      go_simp
      refine (HBO.out.of (bafter HW2.out HB4.out (Nat.le_refl _))).mono ?_
      rintro e w5 ⟨v5, M5, rfl, ht5, hq5, hb5⟩
      obtain ⟨un, ua, uL, uc, up, ul, uk, rfl⟩ := ht5.form
      have HB5 : Hid (Below w2.heap.size w2 w5) := bafter HB4.out hb5 (Nat.le_refl _)
      have HBS5 := hide hb5
      have HT5 := hide ht5
      have HQ5 := hide hq5
      clear ht5 hq5 hb5 hHeld
      go_wp2_with fail
      refine hK.out _ _ (HS.out _ HB5.out) (fun hHeld => ?_)
      clear hK K
      try simp only [Act.put, List.setIfInBounds_toArray, List.set_cons_zero, List.set_cons_succ]
      refine wpAnyH_ready (rs := [8]) (by kernel_rfl) (by simp) ?_
      refine AllReadyH.cons rfl (fun K hK => ?_) AllReadyH.nil
      go_simp
      refine (reval_calls (K := 80) HT5.out HBO.out.cb (by rw [HQ5.out]; exact HBO.out.bnd) (by have h1 := congrArg List.length HQ5.out; rw [ps_length, ps_length] at h1; have := HBO.out.len; omega) (HRX.out.below (bafter HB12.out HB5.out (Nat.le_refl _))) (HGX.out.below (bafter HB12.out HB5.out (Nat.le_refl _))) (by rw [HPX.out]; exact HLB.out.bndT) (by have h1 := congrArg List.length HPX.out; rw [ps_length, ps_length] at h1; have := HLB.out.len; omega) (by omega)).mono ?_
      rintro e w6 ⟨v6, rfl, hr6, hb6⟩
      obtain ⟨fn6, fa6, fL6, fk6, rfl⟩ := hr6.form
      have HB6 : Hid (Below w2.heap.size w2 w6) := bafter HB5.out hb6 (Nat.le_refl _)
      have HBS6 := hide hb6
      have hzz : c + ev (lookZ X) (ps M5) = c + ev (lookZ L) (ps A) := by rw [HQ5.out, lookZ_ps HPX.out]
      rw [hzz] at hr6
      have HR6 := hide hr6
      clear hr6 hb6 hHeld hzz
      go_wp2_with fail
      refine hK.out _ _ (HS.out _ HB6.out) (fun hHeld => ?_)
      clear hK K
      try simp only [Act.put, List.setIfInBounds_toArray, List.set_cons_zero, List.set_cons_succ]
      refine wpAnyH_ready (rs := [9]) (by kernel_rfl) (by simp) ?_
      refine AllReadyH.cons rfl (fun K hK => ?_) AllReadyH.nil
      go_simp
      refine (gsame_true (K := K9) ((HR4.out.below HBS5.out).below HBS6.out) (HR6.out.arg HZB.out) (by omega)).mono ?_
      rintro e w7 ⟨rfl, hb7⟩
      have HB7 : Hid (Below w2.heap.size w2 w7) := bafter HB6.out hb7 (Nat.le_refl _)
      clear hb7 hHeld
      go_wp2_with fail
      refine hK.out _ _ (HS.out _ HB7.out) (fun hHeld => ?_)
      clear hK K
      try simp only [Act.put, List.setIfInBounds_toArray, List.set_cons_zero, List.set_cons_succ]
      refine takeD (i := 10) (v := ?v6) (some 30) rfl (by kernel_rfl) (by kernel_rfl) (by kernel_rfl) (fun _ _ _ h => h) (Or.inl ⟨by rfl, ?hy6⟩) (by assumption) (by rfl) ?rest6
      case hy6 => first | (intro w hSw; (try dsimp only at hSw); obtain ⟨q0, q1, q2⟩ := hSw; go_simp; done) | (intro w hSw; (try dsimp only at hSw); obtain ⟨q0, q1, q2⟩ := hSw; go_simp; with_reducible rfl)
      try simp only [Act.put, List.setIfInBounds_toArray, List.set_cons_zero, List.set_cons_succ]
      refine takeD (i := 11) (v := ?v7) (some 4) rfl (by kernel_rfl) (by kernel_rfl) (by kernel_rfl) (fun _ _ _ h => h) (Or.inl ⟨by rfl, ?hy7⟩) (by assumption) (by rfl) ?rest7
      case hy7 => first | (intro w hSw; (try dsimp only at hSw); obtain ⟨q0, q1, q2⟩ := hSw; go_simp; done) | (intro w hSw; (try dsimp only at hSw); obtain ⟨q0, q1, q2⟩ := hSw; go_simp; with_reducible rfl)
      try simp only [Act.put, List.setIfInBounds_toArray, List.set_cons_zero, List.set_cons_succ]
      clear hHeld
      refine wpAnyH_done (by kernel_rfl) ?_ _
      go_wp2
      go_ret
      exact ⟨rfl, bafter HW2.out HB7.out (Nat.le_refl _)⟩

end Go.Proofs.YtkdhcpfmlelfcaaGreatDoor
