/- The law LinearSubsts, walked. -/
import Derived.Test.YtbjolmgobeagoaaGreatDoorLnP3
namespace Go.Proofs.YtbjolmgobeagoaaGreatDoor
set_option linter.unusedVariables false
set_option linter.unusedSimpArgs false
set_option maxRecDepth 100000
open Go Go.RowKit Go.Shelf Go.Lib

theorem bnd_by {K : Nat} {l : Ps} {f : Int → Int} (h : NF l) (hc : ∀ u, cf u l = f u) (hf : ∀ u, (f u).natAbs < 10 ^ K) : BndT K l := fun p hp => by
  rw [← nf_mem h hp, hc]
  exact hf p.1
theorem subst_bnd {A B : Ps} {x u : Int} {K : Nat} (ha : BndT 80 A) (hb : BndT 80 B) (la : A.length ≤ 12) (lb : B.length ≤ 12) (hK : K = 200) : ((if u = x then 0 else cf u A) + cf u B * cf x A).natAbs < 10 ^ K := by
  have h1 : (cf u A).natAbs < 10 ^ 92 := ten_up (cf_boundT ha u) (by omega)
  have h2 : (cf x A).natAbs < 10 ^ 92 := ten_up (cf_boundT ha x) (by omega)
  have h3 : (cf u B).natAbs < 10 ^ 92 := ten_up (cf_boundT hb u) (by omega)
  have h4 := ten_mul h3 h2
  have h5 : (if u = x then 0 else cf u A).natAbs < 10 ^ (92 + 92) := by
    split
    · exact Nat.pow_pos (by decide)
    · exact ten_up h1 (by omega)
  exact ten_up (ten_add h5 h4) (by omega)
theorem wo_bnd {A : Ps} {x u : Int} {K : Nat} (ha : BndT 80 A) (la : A.length ≤ 12) (hK : K = 200) : (if u = x then 0 else cf u A).natAbs < 10 ^ K := by
  have h1 : (cf u A).natAbs < 10 ^ 92 := ten_up (cf_boundT ha u) (by omega)
  split
  · exact Nat.pow_pos (by decide)
  · exact ten_up h1 (by omega)
theorem const_bnd {A : Ps} {c d x : Int} {K : Nat} (hc : c.natAbs < 10 ^ 80) (hd : d.natAbs < 10 ^ 80) (ha : BndT 80 A) (la : A.length ≤ 12) (hK : K = 200) : (c + d * cf x A).natAbs < 10 ^ K := by
  have h2 : (cf x A).natAbs < 10 ^ 92 := ten_up (cf_boundT ha x) (by omega)
  exact ten_up (ten_add (ten_up hc (show 80 ≤ 80 + 92 by omega)) (ten_mul hd h2)) (by omega)

set_option maxHeartbeats 4000000 in
theorem lsubsts_calls (w : World) (v0 v2 : Value) (x : Int) {an : Bool} {aa : Option Addr} {aL ac : Nat} {ap : Option Addr} {al ak : Nat} {A : List Pt} {bn : Bool} {ba : Option Addr} {bL bc : Nat} {bp : Option Addr} {bl bk : Nat} {B : List Pt}
    (h : TermI w v0 an aa aL ac ap al ak A) (g : TermI w v2 bn ba bL bc bp bl bk B) (htab : TabIs Tryz.prog w "internal/strconv.uint64pow10" .u64 pow10Tab) :
    Calls Tryz.prog 5 #[v0, .int .i64 x, v2] w fun e w' => e = .returned (.bool true) ∧ Below w.heap.size w w' := by
  have e0 := h.1
  have e2 := g.1
  subst e0 e2
  have tb := (Thr.new w (.bool an) (.slice aa aL ac) (.slice ap al ak) 27).alloc (.cells #[.bool bn, .slice ba bL bc, .slice bp bl bk] 27)
  have tc := Thr.new1 w (.cells #[.bool an, .slice aa aL ac, .slice ap al ak] 27) (.bool bn) (.slice ba bL bc) (.slice bp bl bk) 27
  have hba : Below w.heap.size w ((w.alloc (.cells #[.bool an, .slice aa aL ac, .slice ap al ak] 27)).alloc (.cells #[.bool bn, .slice ba bL bc, .slice bp bl bk] 27)) := (bel _ _).trans ((bel _ _).mono (by simp))
  generalize hwA : (w.alloc (.cells #[.bool an, .slice aa aL ac, .slice ap al ak] 27)).alloc (.cells #[.bool bn, .slice ba bL bc, .slice bp bl bk] 27) = wA at *
  have HWA := hide hwA
  have TB := hide tb
  have TC := hide tc
  have HBA := hide hba
  have HA := hide h
  have HB := hide g
  have HTAB := hide htab
  have hlt := h.light hba
  obtain ⟨c0, c1, c2, _, _, _⟩ := tb.every
  clear hwA tb tc hba h g htab
  go_enter Tryz.func5, Tryz.ntmps5
  go_upto_region 1 with fail
  rw [HWA.out]
  go_wp2_with fail
  refine hlt.mono ?_
  rintro e w1 ⟨r1, rfl, hl1, hb1⟩
  have HB1 := hide hb1
  have HW1 := hide (bafter HBA.out hb1 (Nat.le_refl _))
  cases r1 with
  | false =>
    have hsm := summed_calls w1 (tab_keep HTAB.out HW1.out)
    clear hlt hl1 hb1 c0 c1 c2
    go_wp2_with fail
    refine hsm.mono ?_
    rintro e w2 ⟨rfl, hb2⟩
    have HW2 := hide (bafter HW1.out hb2 (Nat.le_refl _))
    clear hsm hb2
    go_wp2
    go_ret
    exact ⟨rfl, HW2.out⟩
  | true =>
    have hLA := hl1.1 rfl
    have HLA := hide hLA
    have TC1 := hide (TC.out.keep hb1)
    obtain ⟨x0, x1, x2, _, _, _⟩ := TC1.out.every
    have hlt2 := HB.out.light HW1.out
    clear hlt hl1 hb1 c0 c1 c2 hLA
    go_wp2_with fail
    refine hlt2.mono ?_
    rintro e w2 ⟨r2, rfl, hl2, hb2⟩
    have HW2 := hide (bafter HW1.out hb2 (Nat.le_refl _))
    cases r2 with
    | false =>
      have hsm := summed_calls w2 (tab_keep HTAB.out HW2.out)
      clear hlt2 hl2 hb2 x0 x1 x2
      go_wp2_with fail
      refine hsm.mono ?_
      rintro e w3 ⟨rfl, hb3⟩
      have HW3 := hide (bafter HW2.out hb3 (Nat.le_refl _))
      clear hsm hb3
      go_wp2
      go_ret
      exact ⟨rfl, HW3.out⟩
    | true =>
      obtain ⟨c, hbo⟩ := HA.out.both HLA.out
      obtain ⟨d, hbp⟩ := HB.out.both (hl2.1 rfl)
      have HBO := hide hbo
      have HBP := hide hbp
      have TB2 := hide ((TB.out.keep HB1.out).keep hb2)
      have TC2 := hide (TC1.out.keep hb2)
      obtain ⟨K9, hK9⟩ : ∃ K9, K9 = 200 := ⟨_, rfl⟩
      clear hlt2 hl2 hb2 x0 x1 x2 hbo hbp
      have HS : Hid (∀ X : World, Below w2.heap.size w2 X → X.cell? ⟨w.heap.size, 0, none⟩ = some (.bool an) ∧ X.cell? ⟨w.heap.size, 1, none⟩ = some (.slice aa aL ac) ∧ X.cell? ⟨w.heap.size, 2, none⟩ = some (.slice ap al ak) ∧ X.cell? ⟨w.heap.size + 1, 0, none⟩ = some (.bool bn) ∧ X.cell? ⟨w.heap.size + 1, 1, none⟩ = some (.slice ba bL bc) ∧ X.cell? ⟨w.heap.size + 1, 2, none⟩ = some (.slice bp bl bk)) := fun X hX => ⟨(TB2.out.keep hX).c0, (TB2.out.keep hX).c1, (TB2.out.keep hX).c2, (TC2.out.keep hX).c0, (TC2.out.keep hX).c1, (TC2.out.keep hX).c2⟩
      go_upto_region 3 with fail
      refine wp_region_held_drew (S := fun X : World => X.cell? ⟨w.heap.size, 0, none⟩ = some (.bool an) ∧ X.cell? ⟨w.heap.size, 1, none⟩ = some (.slice aa aL ac) ∧ X.cell? ⟨w.heap.size, 2, none⟩ = some (.slice ap al ak) ∧ X.cell? ⟨w.heap.size + 1, 0, none⟩ = some (.bool bn) ∧ X.cell? ⟨w.heap.size + 1, 1, none⟩ = some (.slice ba bL bc) ∧ X.cell? ⟨w.heap.size + 1, 2, none⟩ = some (.slice bp bl bk)) (by kernel_rfl) ?_ (fun hHeld => ?_)
      · exact HS.out _ (by (first | exact (Below.refl _ _).drew | exact Below.refl _ _))
      refine wpAnyH_ready (rs := [0]) (by kernel_rfl) (by simp) ?_
      refine AllReadyH.cons rfl (fun K hK => ?_) AllReadyH.nil
      go_simp
      refine (summed_calls _ (tab_keep HTAB.out (bafter HW2.out (by (first | exact (Below.refl _ _).drew | exact Below.refl _ _)) (Nat.le_refl _)))).mono ?_
      rintro e w3 ⟨rfl, hb3⟩
      have HB3 : Hid (Below w2.heap.size w2 w3) := bafter (by (first | exact (Below.refl _ _).drew | exact Below.refl _ _)) hb3 (Nat.le_refl _)
      have HBS3 := hide hb3
      clear hb3 hHeld
      go_wp2_with fail
      refine hK.out _ _ (HS.out _ HB3.out) (fun hHeld => ?_)
      clear hK K
      try simp only [Act.put, List.setIfInBounds_toArray, List.set_cons_zero, List.set_cons_succ]
      refine takeD (i := 1) (v := ?v1) (some 17) rfl (by kernel_rfl) (by kernel_rfl) (by kernel_rfl) (fun _ _ _ h => h) (Or.inl ⟨by rfl, ?hy1⟩) (by assumption) (by rfl) ?rest1
      case hy1 => first | (intro w hSw; (try dsimp only at hSw); obtain ⟨q0, q1, q2, q3, q4, q5⟩ := hSw; go_simp; done) | (intro w hSw; (try dsimp only at hSw); obtain ⟨q0, q1, q2, q3, q4, q5⟩ := hSw; go_simp; with_reducible rfl)
      try simp only [Act.put, List.setIfInBounds_toArray, List.set_cons_zero, List.set_cons_succ]
      refine takeD (i := 2) (v := ?v2) (some 18) rfl (by kernel_rfl) (by kernel_rfl) (by kernel_rfl) (fun _ _ _ h => h) (Or.inl ⟨by rfl, ?hy2⟩) (by assumption) (by rfl) ?rest2
      case hy2 => first | (intro w hSw; (try dsimp only at hSw); obtain ⟨q0, q1, q2, q3, q4, q5⟩ := hSw; go_simp; done) | (intro w hSw; (try dsimp only at hSw); obtain ⟨q0, q1, q2, q3, q4, q5⟩ := hSw; go_simp; with_reducible rfl)
      try simp only [Act.put, List.setIfInBounds_toArray, List.set_cons_zero, List.set_cons_succ]
      refine takeD (i := 3) (v := ?v3) (some 19) rfl (by kernel_rfl) (by kernel_rfl) (by kernel_rfl) (fun _ _ _ h => h) (Or.inl ⟨by rfl, ?hy3⟩) (by assumption) (by rfl) ?rest3
      case hy3 => first | (intro w hSw; (try dsimp only at hSw); obtain ⟨q0, q1, q2, q3, q4, q5⟩ := hSw; go_simp; done) | (intro w hSw; (try dsimp only at hSw); obtain ⟨q0, q1, q2, q3, q4, q5⟩ := hSw; go_simp; with_reducible rfl)
      try simp only [Act.put, List.setIfInBounds_toArray, List.set_cons_zero, List.set_cons_succ]
      refine takeD (i := 4) (v := ?v4) (some 20) rfl (by kernel_rfl) (by kernel_rfl) (by kernel_rfl) (fun _ _ _ h => h) (Or.inl ⟨by rfl, ?hy4⟩) (by assumption) (by rfl) ?rest4
      case hy4 => first | (intro w hSw; (try dsimp only at hSw); obtain ⟨q0, q1, q2, q3, q4, q5⟩ := hSw; go_simp; done) | (intro w hSw; (try dsimp only at hSw); obtain ⟨q0, q1, q2, q3, q4, q5⟩ := hSw; go_simp; with_reducible rfl)
      try simp only [Act.put, List.setIfInBounds_toArray, List.set_cons_zero, List.set_cons_succ]
      refine takeD (i := 6) (v := ?v5) (some 22) rfl (by kernel_rfl) (by kernel_rfl) (by kernel_rfl) (fun _ _ _ h => h) (Or.inl ⟨by rfl, ?hy5⟩) (by assumption) (by rfl) ?rest5
      case hy5 => first | (intro w hSw; (try dsimp only at hSw); obtain ⟨q0, q1, q2, q3, q4, q5⟩ := hSw; go_simp; done) | (intro w hSw; (try dsimp only at hSw); obtain ⟨q0, q1, q2, q3, q4, q5⟩ := hSw; go_simp; with_reducible rfl)
      try simp only [Act.put, List.setIfInBounds_toArray, List.set_cons_zero, List.set_cons_succ]
      refine takeD (i := 8) (v := ?v6) (some 24) rfl (by kernel_rfl) (by kernel_rfl) (by kernel_rfl) (fun _ _ _ h => h) (Or.inl ⟨by rfl, ?hy6⟩) (by assumption) (by rfl) ?rest6
      case hy6 => first | (intro w hSw; (try dsimp only at hSw); obtain ⟨q0, q1, q2, q3, q4, q5⟩ := hSw; go_simp; done) | (intro w hSw; (try dsimp only at hSw); obtain ⟨q0, q1, q2, q3, q4, q5⟩ := hSw; go_simp; with_reducible rfl)
      try simp only [Act.put, List.setIfInBounds_toArray, List.set_cons_zero, List.set_cons_succ]
      refine takeD (i := 9) (v := ?v7) (some 25) rfl (by kernel_rfl) (by kernel_rfl) (by kernel_rfl) (fun _ _ _ h => h) (Or.inl ⟨by rfl, ?hy7⟩) (by assumption) (by rfl) ?rest7
      case hy7 => first | (intro w hSw; (try dsimp only at hSw); obtain ⟨q0, q1, q2, q3, q4, q5⟩ := hSw; go_simp; done) | (intro w hSw; (try dsimp only at hSw); obtain ⟨q0, q1, q2, q3, q4, q5⟩ := hSw; go_simp; with_reducible rfl)
      try simp only [Act.put, List.setIfInBounds_toArray, List.set_cons_zero, List.set_cons_succ]
      refine wpAnyH_ready (rs := [5]) (by kernel_rfl) (by simp) ?_
      refine AllReadyH.cons rfl (fun K hK => ?_) AllReadyH.nil
      go_simp
      refine (subst_calls (HBO.out.term.below (bafter HW2.out HB3.out (Nat.le_refl _))) x (HBP.out.term.below (bafter HW2.out HB3.out (Nat.le_refl _))) (by omega)).mono ?_
      rintro e w4 ⟨v4, M4, rfl, ht4, hc4, hb4⟩
      obtain ⟨sn, sa, sL, sc, sp, sl, sk, rfl⟩ := ht4.form
      have HB4 : Hid (Below w2.heap.size w2 w4) := bafter HB3.out hb4 (Nat.le_refl _)
      have HBS4 := hide hb4
      have HT4 := hide ht4
      have HC4 := hide hc4
      clear ht4 hc4 hb4 hHeld
      go_wp2_with fail
      refine hK.out _ _ (HS.out _ HB4.out) (fun hHeld => ?_)
      clear hK K
      try simp only [Act.put, List.setIfInBounds_toArray, List.set_cons_zero, List.set_cons_succ]
      refine wpAnyH_ready (rs := [7]) (by kernel_rfl) (by simp) ?_
      refine AllReadyH.cons rfl (fun K hK => ?_) AllReadyH.nil
      go_simp
      refine (HBO.out.of (bafter HW2.out HB4.out (Nat.le_refl _))).mono ?_
      rintro e w5 ⟨v5, M5, rfl, ht5, hc5, hb5⟩
      obtain ⟨tn, ta, tL, tc, tp, tl, tk, rfl⟩ := ht5.form
      have HB5 : Hid (Below w2.heap.size w2 w5) := bafter HB4.out hb5 (Nat.le_refl _)
      have HBS5 := hide hb5
      have HT5 := hide ht5
      have HC5 := hide hc5
      clear ht5 hc5 hb5 hHeld
      go_wp2_with fail
      refine hK.out _ _ (HS.out _ HB5.out) (fun hHeld => ?_)
      clear hK K
      try simp only [Act.put, List.setIfInBounds_toArray, List.set_cons_zero, List.set_cons_succ]
      refine wpAnyH_ready (rs := [10]) (by kernel_rfl) (by simp) ?_
      refine AllReadyH.cons rfl (fun K hK => ?_) AllReadyH.nil
      go_simp
      refine (HBP.out.of (bafter HW2.out HB5.out (Nat.le_refl _))).mono ?_
      rintro e w6 ⟨v6, M6, rfl, ht6, hc6, hb6⟩
      obtain ⟨un, ua, uL, uc, up, ul, uk, rfl⟩ := ht6.form
      have HB6 : Hid (Below w2.heap.size w2 w6) := bafter HB5.out hb6 (Nat.le_refl _)
      have HBS6 := hide hb6
      have HT6 := hide ht6
      have HC6 := hide hc6
      clear ht6 hc6 hb6 hHeld
      go_wp2_with fail
      refine hK.out _ _ (HS.out _ HB6.out) (fun hHeld => ?_)
      clear hK K
      try simp only [Act.put, List.setIfInBounds_toArray, List.set_cons_zero, List.set_cons_succ]
      have hc5 := HC5.out
      have hc6 := HC6.out
      have hl5 : M5.length ≤ 12 := by
        have h9 := congrArg List.length hc5
        rw [ps_length, ps_length] at h9
        have := HBO.out.len
        omega
      have hl6 : M6.length ≤ 12 := by
        have h9 := congrArg List.length hc6
        rw [ps_length, ps_length] at h9
        have := HBP.out.len
        omega
      refine wpAnyH_ready (rs := [11]) (by kernel_rfl) (by simp) ?_
      refine AllReadyH.cons rfl (fun K hK => ?_) AllReadyH.nil
      go_simp
      refine (rsubstT_calls (HT5.out.below HBS6.out) x HT6.out HBO.out.cb HBP.out.cb (by rw [hc5]; exact HBO.out.bnd) (by rw [hc6]; exact HBP.out.bnd) (by omega) (by omega) (by omega)).mono ?_
      rintro e w7 ⟨v7, M7, rfl, ht7, hc7, hb7⟩
      obtain ⟨yn, ya, yL, yc, yp, yl, yk, rfl⟩ := ht7.form
      have HB7 : Hid (Below w2.heap.size w2 w7) := bafter HB6.out hb7 (Nat.le_refl _)
      have HBS7 := hide hb7
      have HT7 := hide ht7
      have HC7 := hide hc7
      clear ht7 hc7 hb7 hHeld
      go_wp2_with fail
      refine hK.out _ _ (HS.out _ HB7.out) (fun hHeld => ?_)
      clear hK K
      try simp only [Act.put, List.setIfInBounds_toArray, List.set_cons_zero, List.set_cons_succ]
      have HEQ : Hid (ps M4 = ps M7) := nf_unique HT4.out.nf HC7.out.1 (fun u => by rw [HC4.out, HC7.out.2, hc5, hc6])
      clear hc5 hc6 hl5 hl6
      have HBN : Hid (BndT K9 (ps M4)) := bnd_by HT4.out.nf HC4.out (fun u => subst_bnd HBO.out.bnd HBP.out.bnd (by rw [ps_length]; exact HBO.out.len) (by rw [ps_length]; exact HBP.out.len) hK9)
      have hll := len_ps (l := (woL x (ps A)) ++ times (cf x (ps A)) (ps B)) HT4.out.nf (fun u => by rw [HC4.out, cf_append, woL, cf_without, times, cf_scale])
      have hl4 : M4.length ≤ 100 := by
        have h8 := List.length_filter_le (fun p : Int × Int => decide (p.1 ≠ x)) (ps A)
        rw [List.length_append, times_length, ps_length] at hll
        unfold woL at hll
        rw [ps_length] at h8
        have := HBO.out.len
        have := HBP.out.len
        omega
      have hcf5 : ∀ y, y = ps A → cf x y = cf x (ps A) := fun y e => by rw [e]
      have HTR7 : Hid (RTerm w7 (.agg #[.bool yn, .slice ya yL yc, .slice yp yl yk]) (c + d * cf x (ps A)) M7) := by
        have h9 := HT7.out
        rw [hcf5 _ HC5.out] at h9
        exact h9
      clear hcf5 hll
      refine wpAnyH_ready (rs := [12]) (by kernel_rfl) (by simp) ?_
      refine AllReadyH.cons rfl (fun K hK => ?_) AllReadyH.nil
      go_simp
      refine (gsameT_calls (K := K9) (((HT4.out.below HBS5.out).below HBS6.out).below HBS7.out) HTR7.out HEQ.out (const_bnd HBO.out.cb HBP.out.cb HBO.out.bnd (by rw [ps_length]; exact HBO.out.len) hK9) HBN.out (by omega) (by omega)).mono ?_
      rintro e w8 ⟨rfl, hb8⟩
      have HB8 : Hid (Below w2.heap.size w2 w8) := bafter HB7.out hb8 (Nat.le_refl _)
      have HBS8 := hide hb8
      clear hb8 hHeld
      go_wp2_with fail
      refine hK.out _ _ (HS.out _ HB8.out) (fun hHeld => ?_)
      clear hK K
      try simp only [Act.put, List.setIfInBounds_toArray, List.set_cons_zero, List.set_cons_succ]
      clear hl4
      refine takeD (i := 13) (v := ?v8) (some 29) rfl (by kernel_rfl) (by kernel_rfl) (by kernel_rfl) (fun _ _ _ h => h) (Or.inl ⟨by rfl, ?hy8⟩) (by assumption) (by rfl) ?rest8
      case hy8 => first | (intro w hSw; (try dsimp only at hSw); obtain ⟨q0, q1, q2, q3, q4, q5⟩ := hSw; go_simp; done) | (intro w hSw; (try dsimp only at hSw); obtain ⟨q0, q1, q2, q3, q4, q5⟩ := hSw; go_simp; with_reducible rfl)
      try simp only [Act.put, List.setIfInBounds_toArray, List.set_cons_zero, List.set_cons_succ]
      refine takeD (i := 14) (v := ?v9) (some 30) rfl (by kernel_rfl) (by kernel_rfl) (by kernel_rfl) (fun _ _ _ h => h) (Or.inl ⟨by rfl, ?hy9⟩) (by assumption) (by rfl) ?rest9
      case hy9 => first | (intro w hSw; (try dsimp only at hSw); obtain ⟨q0, q1, q2, q3, q4, q5⟩ := hSw; go_simp; done) | (intro w hSw; (try dsimp only at hSw); obtain ⟨q0, q1, q2, q3, q4, q5⟩ := hSw; go_simp; with_reducible rfl)
      try simp only [Act.put, List.setIfInBounds_toArray, List.set_cons_zero, List.set_cons_succ]
      refine takeD (i := 15) (v := ?v10) (some 31) rfl (by kernel_rfl) (by kernel_rfl) (by kernel_rfl) (fun _ _ _ h => h) (Or.inl ⟨by rfl, ?hy10⟩) (by assumption) (by rfl) ?rest10
      case hy10 => first | (intro w hSw; (try dsimp only at hSw); obtain ⟨q0, q1, q2, q3, q4, q5⟩ := hSw; go_simp; done) | (intro w hSw; (try dsimp only at hSw); obtain ⟨q0, q1, q2, q3, q4, q5⟩ := hSw; go_simp; with_reducible rfl)
      try simp only [Act.put, List.setIfInBounds_toArray, List.set_cons_zero, List.set_cons_succ]
      refine takeD (i := 16) (v := ?v11) (some 32) rfl (by kernel_rfl) (by kernel_rfl) (by kernel_rfl) (fun _ _ _ h => h) (Or.inl ⟨by rfl, ?hy11⟩) (by assumption) (by rfl) ?rest11
      case hy11 => first | (intro w hSw; (try dsimp only at hSw); obtain ⟨q0, q1, q2, q3, q4, q5⟩ := hSw; go_simp; done) | (intro w hSw; (try dsimp only at hSw); obtain ⟨q0, q1, q2, q3, q4, q5⟩ := hSw; go_simp; with_reducible rfl)
      try simp only [Act.put, List.setIfInBounds_toArray, List.set_cons_zero, List.set_cons_succ]
      refine takeD (i := 18) (v := ?v12) (some 34) rfl (by kernel_rfl) (by kernel_rfl) (by kernel_rfl) (fun _ _ _ h => h) (Or.inl ⟨by rfl, ?hy12⟩) (by assumption) (by rfl) ?rest12
      case hy12 => first | (intro w hSw; (try dsimp only at hSw); obtain ⟨q0, q1, q2, q3, q4, q5⟩ := hSw; go_simp; done) | (intro w hSw; (try dsimp only at hSw); obtain ⟨q0, q1, q2, q3, q4, q5⟩ := hSw; go_simp; with_reducible rfl)
      try simp only [Act.put, List.setIfInBounds_toArray, List.set_cons_zero, List.set_cons_succ]
      refine takeD (i := 20) (v := ?v13) (some 36) rfl (by kernel_rfl) (by kernel_rfl) (by kernel_rfl) (fun _ _ _ h => h) (Or.inl ⟨by rfl, ?hy13⟩) (by assumption) (by rfl) ?rest13
      case hy13 => first | (intro w hSw; (try dsimp only at hSw); obtain ⟨q0, q1, q2, q3, q4, q5⟩ := hSw; go_simp; done) | (intro w hSw; (try dsimp only at hSw); obtain ⟨q0, q1, q2, q3, q4, q5⟩ := hSw; go_simp; with_reducible rfl)
      try simp only [Act.put, List.setIfInBounds_toArray, List.set_cons_zero, List.set_cons_succ]
      refine wpAnyH_ready (rs := [17]) (by kernel_rfl) (by simp) ?_
      refine AllReadyH.cons rfl (fun K hK => ?_) AllReadyH.nil
      go_simp
      refine (without_calls (HBO.out.term.below (bafter HW2.out HB8.out (Nat.le_refl _))) x (by omega)).mono ?_
      rintro e w9 ⟨v9, M9, rfl, ht9, hc9, hb9⟩
      obtain ⟨fn, fa, fL, fc, fp, fl, fk, rfl⟩ := ht9.form
      have HB9 : Hid (Below w2.heap.size w2 w9) := bafter HB8.out hb9 (Nat.le_refl _)
      have HBS9 := hide hb9
      have HT9 := hide ht9
      have HC9 := hide hc9
      clear ht9 hc9 hb9 hHeld
      go_wp2_with fail
      refine hK.out _ _ (HS.out _ HB9.out) (fun hHeld => ?_)
      clear hK K
      try simp only [Act.put, List.setIfInBounds_toArray, List.set_cons_zero, List.set_cons_succ]
      refine wpAnyH_ready (rs := [19]) (by kernel_rfl) (by simp) ?_
      refine AllReadyH.cons rfl (fun K hK => ?_) AllReadyH.nil
      go_simp
      refine (HBO.out.of (bafter HW2.out HB9.out (Nat.le_refl _))).mono ?_
      rintro e w10 ⟨v10, M10, rfl, ht10, hc10, hb10⟩
      obtain ⟨gn, ga, gL, gc, gp, gl, gk, rfl⟩ := ht10.form
      have HB10 : Hid (Below w2.heap.size w2 w10) := bafter HB9.out hb10 (Nat.le_refl _)
      have HBS10 := hide hb10
      have HT10 := hide ht10
      have HC10 := hide hc10
      clear ht10 hc10 hb10 hHeld
      go_wp2_with fail
      refine hK.out _ _ (HS.out _ HB10.out) (fun hHeld => ?_)
      clear hK K
      try simp only [Act.put, List.setIfInBounds_toArray, List.set_cons_zero, List.set_cons_succ]
      have hc10 := HC10.out
      have hl10 : M10.length ≤ 12 := by
        have h9 := congrArg List.length hc10
        rw [ps_length, ps_length] at h9
        have := HBO.out.len
        omega
      refine wpAnyH_ready (rs := [21]) (by kernel_rfl) (by simp) ?_
      refine AllReadyH.cons rfl (fun K hK => ?_) AllReadyH.nil
      go_simp
      refine (rwithoutT_calls HT10.out x HBO.out.cb (by rw [hc10]; exact HBO.out.bnd) (by omega) (by omega)).mono ?_
      rintro e w11 ⟨v11, M11, rfl, ht11, hc11, hb11⟩
      obtain ⟨jn, ja, jL, jc, jp, jl, jk, rfl⟩ := ht11.form
      have HB11 : Hid (Below w2.heap.size w2 w11) := bafter HB10.out hb11 (Nat.le_refl _)
      have HBS11 := hide hb11
      have HT11 := hide ht11
      have HC11 := hide hc11
      clear ht11 hc11 hb11 hHeld
      go_wp2_with fail
      refine hK.out _ _ (HS.out _ HB11.out) (fun hHeld => ?_)
      clear hK K
      try simp only [Act.put, List.setIfInBounds_toArray, List.set_cons_zero, List.set_cons_succ]
      have HEQ2 : Hid (ps M9 = ps M11) := nf_unique HT9.out.nf HC11.out.1 (fun u => by rw [HC9.out, HC11.out.2, hc10])
      clear hc10 hl10
      have HBN2 : Hid (BndT K9 (ps M9)) := bnd_by HT9.out.nf HC9.out (fun u => wo_bnd HBO.out.bnd (by rw [ps_length]; exact HBO.out.len) hK9)
      have hl9 : M9.length ≤ 100 := by
        have h7 := len_ps (l := woL x (ps A)) HT9.out.nf (fun u => by rw [HC9.out, woL, cf_without])
        have h8 := List.length_filter_le (fun p : Int × Int => decide (p.1 ≠ x)) (ps A)
        unfold woL at h7
        rw [ps_length] at h8
        have := HBO.out.len
        omega
      have hcb9 : c.natAbs < 10 ^ K9 := ten_up HBO.out.cb (by omega)
      refine wpAnyH_ready (rs := [22]) (by kernel_rfl) (by simp) ?_
      refine AllReadyH.cons rfl (fun K hK => ?_) AllReadyH.nil
      go_simp
      refine (gsameT_calls (K := K9) ((HT9.out.below HBS10.out).below HBS11.out) HT11.out HEQ2.out hcb9 HBN2.out (by omega) (by omega)).mono ?_
      rintro e w12 ⟨rfl, hb12⟩
      have HB12 : Hid (Below w2.heap.size w2 w12) := bafter HB11.out hb12 (Nat.le_refl _)
      have HBS12 := hide hb12
      clear hb12 hHeld
      go_wp2_with fail
      refine hK.out _ _ (HS.out _ HB12.out) (fun hHeld => ?_)
      clear hK K
      try simp only [Act.put, List.setIfInBounds_toArray, List.set_cons_zero, List.set_cons_succ]
      refine takeD (i := 23) (v := ?v14) (some 39) rfl (by kernel_rfl) (by kernel_rfl) (by kernel_rfl) (fun _ _ _ h => h) (Or.inl ⟨by rfl, ?hy14⟩) (by assumption) (by rfl) ?rest14
      case hy14 => first | (intro w hSw; (try dsimp only at hSw); obtain ⟨q0, q1, q2, q3, q4, q5⟩ := hSw; go_simp; done) | (intro w hSw; (try dsimp only at hSw); obtain ⟨q0, q1, q2, q3, q4, q5⟩ := hSw; go_simp; with_reducible rfl)
      try simp only [Act.put, List.setIfInBounds_toArray, List.set_cons_zero, List.set_cons_succ]
      refine wpAnyH_ready (rs := [24]) (by kernel_rfl) (by simp) ?_
      refine AllReadyH.cons rfl (fun K hK => ?_) AllReadyH.nil
      go_simp
      refine hK.out _ _ (HS.out _ HB12.out) (fun hHeld => ?_)
      clear hK K hHeld
      try simp only [Act.put, List.setIfInBounds_toArray, List.set_cons_zero, List.set_cons_succ]
      refine wpAnyH_done (by kernel_rfl) ?_ _
      clear hl9 hcb9
      go_wp2
      go_ret
      exact ⟨rfl, bafter HW2.out HB12.out (Nat.le_refl _)⟩

end Go.Proofs.YtbjolmgobeagoaaGreatDoor
