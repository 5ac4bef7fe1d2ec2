/- The law's own example of sums: summed. -/
import Derived.Test.YtbjolmgobeagoaaGreatDoorLnText
import Derived.Test.YtbjolmgobeagoaaGreatDoorLnSubst
import Derived.Test.YtbjolmgobeagoaaGreatDoorLnSub
import Derived.Test.YtbjolmgobeagoaaGreatDoorBigSigned
namespace Go.Proofs.YtbjolmgobeagoaaGreatDoor
set_option linter.unusedVariables false
set_option linter.unusedSimpArgs false
set_option maxRecDepth 100000
open Go Go.RowKit Go.Shelf Go.Lib

theorem row_lit3 (W : World) (a1 a2 a3 : Int) (b1 b2 b3 : Bool) (c1 c2 c3 : Value) (z1 z2 z3 : Int) : RowP (W.alloc (.cells #[.int .i64 a1, .bool b1, c1, .int .i64 a2, .bool b2, c2, .int .i64 a3, .bool b3, c3] 89)) (.slice (some ⟨W.heap.size, 0, none⟩) 3 3) [(a1, b1, c1, z1), (a2, b2, c2, z2), (a3, b3, c3, z3)] := by
  refine ⟨some ⟨W.heap.size, 0, none⟩, 3, rfl, Nat.le_refl _, by simp [maxLen], fun j m hj => ?_⟩
  match j, hj with
  | 0, hj =>
    simp at hj
    subst hj
    exact ⟨_, _, rfl, World.cell?_alloc_mark W _ _ (0, 0) 0, World.cell?_alloc_mark W _ _ (0, 0) 1, World.cell?_alloc_mark W _ _ (0, 0) 2⟩
  | 1, hj =>
    simp at hj
    subst hj
    exact ⟨_, _, rfl, World.cell?_alloc_mark W _ _ (0, 0) 3, World.cell?_alloc_mark W _ _ (0, 0) 4, World.cell?_alloc_mark W _ _ (0, 0) 5⟩
  | 2, hj =>
    simp at hj
    subst hj
    exact ⟨_, _, rfl, World.cell?_alloc_mark W _ _ (0, 0) 6, World.cell?_alloc_mark W _ _ (0, 0) 7, World.cell?_alloc_mark W _ _ (0, 0) 8⟩
  | n + 3, hj => simp at hj
theorem TermR.few {W : World} {v : Value} {c : Int} {M : List Pt} {l : Ps} (h : TermR W v c M) (hl : ps M = l) (hb : ∀ p ∈ l, p.2.natAbs ≤ 1000) (hc : c.natAbs ≤ 1000) (hn : l.length ≤ 1000) : TermA 1 W v c M := by
  refine h.arg (lt_R1 hc) (fun p hp => lt_R1 (hb p (by rw [← hl]; exact hp))) (by omega) ?_
  have := congrArg List.length hl
  rw [ps_length] at this
  omega
theorem nf_one (v z : Int) (hz : z ≠ 0) : NF [(v, z)] := ⟨by simp, fun p hp => by simp at hp; subst hp; exact hz⟩
theorem ex_text1 : textL 5 [(1, 2)] = [50, 42, 120, 49, 43, 53] := by decide +kernel
theorem ex_text2 : textL 3 [(2, 2)] = [50, 42, 120, 50, 43, 51] := by decide +kernel
theorem ex_cf1 (u : Int) : cf u [(3, 1), (1, 2), (3, -1)] = cf u [(1, 2)] := by
  simp only [cf_cons, cf_nil]
  (repeat' split) <;> omega
theorem ex_cf2 (u : Int) : (if u = 1 then 0 else cf u [(1, 2)]) + cf u [(2, 1)] * cf 1 [(1, 2)] = cf u [(2, 2)] := by
  have h : cf 1 [(1, 2)] = 2 := rfl
  rw [h]
  simp only [cf_cons, cf_nil]
  (repeat' split) <;> omega
theorem rng_small {v : Int} (h : v.natAbs ≤ 1000) : Rng v := by unfold Rng; omega

set_option maxHeartbeats 4000000 in
theorem summed_calls (w : World) (htab : TabIs Tryz.prog w "internal/strconv.uint64pow10" .u64 pow10Tab) :
    Calls Tryz.prog 10 #[] w fun e w' => e = .returned (.bool true) ∧ Below w.heap.size w w' := by
  have HTAB := hide htab
  clear htab
  go_enter Tryz.func10, Tryz.ntmps10
  go_wp2_with fail
  refine (bof_calls w (5) (by omega) (by omega)).mono ?_
  rintro e w1 ⟨v1, rfl, hr1, hb1⟩
  obtain ⟨n1, a1, L1, c1, rfl⟩ := hr1.form
  have HR1 := hide hr1
  have HBS1 := hide hb1
  have HB1 := hide hb1
  clear hr1 hb1
  go_wp2_with fail
  refine (bof_calls w1 (1) (by omega) (by omega)).mono ?_
  rintro e w2 ⟨v2, rfl, hr2, hb2⟩
  obtain ⟨n2, a2, L2, c2, rfl⟩ := hr2.form
  have HR2 := hide hr2
  have HBS2 := hide hb2
  have HB2 := hide (bafter HB1.out hb2 (Nat.le_refl _))
  clear hr2 hb2
  go_wp2_with fail
  refine (bof_calls w2 (2) (by omega) (by omega)).mono ?_
  rintro e w3 ⟨v3, rfl, hr3, hb3⟩
  obtain ⟨n3, a3, L3, c3, rfl⟩ := hr3.form
  have HR3 := hide hr3
  have HBS3 := hide hb3
  have HB3 := hide (bafter HB2.out hb3 (Nat.le_refl _))
  clear hr3 hb3
  go_wp2_with fail
  refine (bof_calls w3 (-1) (by omega) (by omega)).mono ?_
  rintro e w4 ⟨v4, rfl, hr4, hb4⟩
  obtain ⟨n4, a4, L4, c4, rfl⟩ := hr4.form
  have HR4 := hide hr4
  have HBS4 := hide hb4
  have HB4 := hide (bafter HB3.out hb4 (Nat.le_refl _))
  clear hr4 hb4
  have hbl := bel w4 (.cells #[.int .i64 3, .bool n2, .slice a2 L2 c2, .int .i64 1, .bool n3, .slice a3 L3 c3, .int .i64 3, .bool n4, .slice a4 L4 c4] 89)
  have HB5 := hide (bafter HB4.out hbl (Nat.le_refl _))
  have HROW := hide (row_lit3 w4 3 1 3 n2 n3 n4 (.slice a2 L2 c2) (.slice a3 L3 c3) (.slice a4 L4 c4) 1 2 (-1))
  have HR1 := hide ((((HR1.out.below HBS2.out).below HBS3.out).below HBS4.out).below hbl)
  have HR2 := hide (((HR2.out.below HBS3.out).below HBS4.out).below hbl)
  have HR3 := hide ((HR3.out.below HBS4.out).below hbl)
  have HR4 := hide (HR4.out.below hbl)
  generalize hw5 : w4.alloc (.cells #[.int .i64 3, .bool n2, .slice a2 L2 c2, .int .i64 1, .bool n3, .slice a3 L3 c3, .int .i64 3, .bool n4, .slice a4 L4 c4] 89) = w5 at *
  have HW5 := hide hw5
  have hTA : TermA 1 w5 (.agg #[.bool n1, .slice a1 L1 c1, .slice (some ⟨w4.heap.size, 0, none⟩) 3 3]) 5 [((3, n2, .slice a2 L2 c2, 1) : Pt), (1, n3, .slice a3 L3 c3, 2), (3, n4, .slice a4 L4 c4, -1)] := by
    refine ⟨_, _, _, _, _, _, _, rfl, HR1.out.arg (lt_R1 (by decide)) (by omega), lt_R1 (by decide), HROW.out, fun m hm => ?_, fun p hp => ?_, .inl (by simp), by simp⟩
    · simp at hm
      rcases hm with rfl | rfl | rfl
      · exact ⟨rng_small (by show (3 : Int).natAbs ≤ 1000; decide), HR2.out.arg (lt_R1 (by decide)) (by omega)⟩
      · exact ⟨rng_small (by show (1 : Int).natAbs ≤ 1000; decide), HR3.out.arg (lt_R1 (by decide)) (by omega)⟩
      · exact ⟨rng_small (by show (3 : Int).natAbs ≤ 1000; decide), HR4.out.arg (lt_R1 (by decide)) (by omega)⟩
    · simp [ps, pt] at hp
      rcases hp with rfl | rfl | rfl <;> exact lt_R1 (by decide)
  have hno := lnorm_calls hTA (by omega)
  clear hbl hw5 hTA
  go_wp2_with fail
  rw [HW5.out]
  refine hno.mono ?_
  rintro e w6 ⟨v6, M6, rfl, ht6, hc6, hb6⟩
  obtain ⟨en, ea, eL, ec, sa, sl, sc, rfl⟩ := ht6.form
  have hp6 : ps M6 = [(1, 2)] := nf_unique ht6.nf (nf_one 1 2 (by omega)) (fun u => by
    rw [hc6]
    exact ex_cf1 u)
  have hbx := bel w6 (.cells #[.bool en, .slice ea eL ec, .slice sa sl sc] 27)
  have HB7 := hide (bafter (bafter HB5.out hb6 (Nat.le_refl _)) hbx (Nat.le_refl _))
  have TB := hide (Thr.new w6 (.bool en) (.slice ea eL ec) (.slice sa sl sc) 27)
  have HT7 := hide (ht6.below hbx)
  have HP6 := hide hp6
  generalize hw7 : w6.alloc (.cells #[.bool en, .slice ea eL ec, .slice sa sl sc] 27) = w7 at *
  have HW7 := hide hw7
  clear hno ht6 hc6 hb6 hp6 hbx hw7
  have HS : Hid (∀ X : World, Below w7.heap.size w7 X → X.cell? ⟨w6.heap.size, 0, none⟩ = some (.bool en) ∧ X.cell? ⟨w6.heap.size, 1, none⟩ = some (.slice ea eL ec) ∧ X.cell? ⟨w6.heap.size, 2, none⟩ = some (.slice sa sl sc)) := fun X hX => ⟨(TB.out.keep hX).c0, (TB.out.keep hX).c1, (TB.out.keep hX).c2⟩
  have HTA := hide (HT7.out.few HP6.out (fun p hp => by simp at hp; subst hp; decide) (by decide) (by simp))
  go_upto_region 2 with fail
  rw [HW7.out]
  refine wp_region_held_drew (S := fun X : World => X.cell? ⟨w6.heap.size, 0, none⟩ = some (.bool en) ∧ X.cell? ⟨w6.heap.size, 1, none⟩ = some (.slice ea eL ec) ∧ X.cell? ⟨w6.heap.size, 2, none⟩ = some (.slice sa sl sc)) (by kernel_rfl) ?_ (fun hHeld => ?_)
  · exact HS.out _ (by (first | exact (Below.refl _ _).drew | exact Below.refl _ _))
  refine takeD (i := 0) (v := ?v1) (some 12) rfl (by kernel_rfl) (by kernel_rfl) (by kernel_rfl) (fun _ _ _ h => h) (Or.inl ⟨by rfl, ?hy1⟩) (by assumption) (by rfl) ?rest1
  case hy1 => first | (intro w hSw; (try dsimp only at hSw); obtain ⟨q0, q1, q2⟩ := hSw; go_simp; done) | (intro w hSw; (try dsimp only at hSw); obtain ⟨q0, q1, q2⟩ := hSw; go_simp; with_reducible rfl)
  try simp only [Act.put, List.setIfInBounds_toArray, List.set_cons_zero, List.set_cons_succ]
  refine wpAnyH_ready (rs := [1]) (by kernel_rfl) (by simp) ?_
  refine AllReadyH.cons rfl (fun K hK => ?_) AllReadyH.nil
  go_simp
  refine (text_calls2 (HTA.out.below (by (first | exact (Below.refl _ _).drew | exact Below.refl _ _))) (by omega) (by omega) (tab_keep HTAB.out (bafter HB7.out (by (first | exact (Below.refl _ _).drew | exact Below.refl _ _)) (Nat.le_refl _)))).mono ?_
  rintro e w8 ⟨l8, rfl, hn8, hc8, hb8⟩
  obtain rfl : l8 = [(1, 2)] := nf_unique hn8 (nf_one 1 2 (by omega)) (fun u => by rw [hc8, HP6.out])
  rw [ex_text1]
  have HB8 : Hid (Below w7.heap.size w7 w8) := bafter (by (first | exact (Below.refl _ _).drew | exact Below.refl _ _)) hb8 (Nat.le_refl _)
  clear hn8 hc8 hb8 hHeld
  go_wp2_with fail
  refine hK.out _ _ (HS.out _ HB8.out) (fun hHeld => ?_)
  clear hK K
  try simp only [Act.put, List.setIfInBounds_toArray, List.set_cons_zero, List.set_cons_succ]
  refine takeD (i := 2) (v := ?v2) (some 14) rfl (by kernel_rfl) (by kernel_rfl) (by kernel_rfl) (fun _ _ _ h => h) (Or.inl ⟨by rfl, ?hy2⟩) (by assumption) (by rfl) ?rest2
  case hy2 => first | (intro w hSw; (try dsimp only at hSw); obtain ⟨q0, q1, q2⟩ := hSw; go_simp; done) | (intro w hSw; (try dsimp only at hSw); obtain ⟨q0, q1, q2⟩ := hSw; go_simp; with_reducible rfl)
  try simp only [Act.put, List.setIfInBounds_toArray, List.set_cons_zero, List.set_cons_succ]
  refine takeD (i := 3) (v := ?v3) (some 15) rfl (by kernel_rfl) (by kernel_rfl) (by kernel_rfl) (fun _ _ _ h => h) (Or.inl ⟨by rfl, ?hy3⟩) (by assumption) (by rfl) ?rest3
  case hy3 => first | (intro w hSw; (try dsimp only at hSw); obtain ⟨q0, q1, q2⟩ := hSw; go_simp; done) | (intro w hSw; (try dsimp only at hSw); obtain ⟨q0, q1, q2⟩ := hSw; go_simp; with_reducible rfl)
  try simp only [Act.put, List.setIfInBounds_toArray, List.set_cons_zero, List.set_cons_succ]
  refine takeD (i := 4) (v := ?v4) (some 16) rfl (by kernel_rfl) (by kernel_rfl) (by kernel_rfl) (fun _ _ _ h => h) (Or.inl ⟨by rfl, ?hy4⟩) (by assumption) (by rfl) ?rest4
  case hy4 => first | (intro w hSw; (try dsimp only at hSw); obtain ⟨q0, q1, q2⟩ := hSw; go_simp; done) | (intro w hSw; (try dsimp only at hSw); obtain ⟨q0, q1, q2⟩ := hSw; go_simp; with_reducible rfl)
  try simp only [Act.put, List.setIfInBounds_toArray, List.set_cons_zero, List.set_cons_succ]
  refine wpAnyH_ready (rs := [5]) (by kernel_rfl) (by simp) ?_
  refine AllReadyH.cons rfl (fun K hK => ?_) AllReadyH.nil
  go_simp
  refine (lvar_calls w8 2 (rng_small (by decide))).mono ?_
  rintro e w9 ⟨v9, nb9, mv9, rfl, ht9, hb9⟩
  obtain ⟨fn, fa, fL, fc, ta, tl, tc, rfl⟩ := ht9.form
  have HB9 := hide (bafter HB8.out hb9 (Nat.le_refl _))
  have HT9 := hide ht9
  clear ht9 hb9 hHeld
  go_wp2_with fail
  refine hK.out _ _ (HS.out _ HB9.out) (fun hHeld => ?_)
  clear hK K
  try simp only [Act.put, List.setIfInBounds_toArray, List.set_cons_zero, List.set_cons_succ]
  refine wpAnyH_ready (rs := [6]) (by kernel_rfl) (by simp) ?_
  refine AllReadyH.cons rfl (fun K hK => ?_) AllReadyH.nil
  go_simp
  refine (bof_calls w9 1 (by omega) (by omega)).mono ?_
  rintro e w10 ⟨v10, rfl, hr10, hb10⟩
  obtain ⟨gn, ga, gL, gc, rfl⟩ := hr10.form
  have HB10 := hide (bafter HB9.out hb10 (Nat.le_refl _))
  have HBS10 := hide hb10
  have HR10 := hide hr10
  clear hr10 hb10 hHeld
  go_wp2_with fail
  refine hK.out _ _ (HS.out _ HB10.out) (fun hHeld => ?_)
  clear hK K
  try simp only [Act.put, List.setIfInBounds_toArray, List.set_cons_zero, List.set_cons_succ]
  refine wpAnyH_ready (rs := [7]) (by kernel_rfl) (by simp) ?_
  refine AllReadyH.cons rfl (fun K hK => ?_) AllReadyH.nil
  go_simp
  refine (lof_calls (HR10.out.arg (lt_R1 (by decide)) (by omega))).mono ?_
  rintro e w11 ⟨v11, M11, rfl, ht11, hc11, hb11⟩
  obtain ⟨hn, ha, hL, hc, ua, ul, uc, rfl⟩ := ht11.form
  have HB11 := hide (bafter HB10.out hb11 (Nat.le_refl _))
  have HBS11 := hide hb11
  have HT11 := hide ht11
  have HP11 : Hid (ps M11 = []) := nf_unique ht11.nf NF.nil (fun u => by rw [hc11]; rfl)
  clear ht11 hc11 hb11 hHeld
  go_wp2_with fail
  refine hK.out _ _ (HS.out _ HB11.out) (fun hHeld => ?_)
  clear hK K
  try simp only [Act.put, List.setIfInBounds_toArray, List.set_cons_zero, List.set_cons_succ]
  refine wpAnyH_ready (rs := [8]) (by kernel_rfl) (by simp) ?_
  refine AllReadyH.cons rfl (fun K hK => ?_) AllReadyH.nil
  go_simp
  refine (lsub_calls (((HT9.out.below HBS10.out).below HBS11.out).few (l := [(2, 1)]) rfl (fun p hp => by simp at hp; subst hp; decide) (by decide) (by simp)) (HT11.out.few HP11.out (fun p hp => by cases hp) (by decide) (by simp)) (by omega)).mono ?_
  rintro e w12 ⟨v12, M12, rfl, ht12, hc12, hb12⟩
  obtain ⟨in1, ia, iL, ic, xa, xl, xc, rfl⟩ := ht12.form
  have HB12 := hide (bafter HB11.out hb12 (Nat.le_refl _))
  have HT12 := hide ht12
  have HP12 : Hid (ps M12 = [(2, 1)]) := nf_unique ht12.nf (nf_one 2 1 (by omega)) (fun u => by rw [hc12, HP11.out]; show cf u [(2, 1)] - 0 = _; omega)
  clear ht12 hc12 hb12 hHeld
  go_wp2_with fail
  refine hK.out _ _ (HS.out _ HB12.out) (fun hHeld => ?_)
  clear hK K
  try simp only [Act.put, List.setIfInBounds_toArray, List.set_cons_zero, List.set_cons_succ]
  refine wpAnyH_ready (rs := [9]) (by kernel_rfl) (by simp) ?_
  refine AllReadyH.cons rfl (fun K hK => ?_) AllReadyH.nil
  go_simp
  refine (subst_calls (HTA.out.below HB12.out) 1 (HT12.out.few HP12.out (fun p hp => by simp at hp; subst hp; decide) (by decide) (by simp)) (by omega)).mono ?_
  rintro e w13 ⟨v13, M13, rfl, ht13, hc13, hb13⟩
  obtain ⟨jn, ja, jL, jc, ya, yl, yc, rfl⟩ := ht13.form
  have HB13 := hide (bafter HB12.out hb13 (Nat.le_refl _))
  have HP13 : Hid (ps M13 = [(2, 2)]) := nf_unique ht13.nf (nf_one 2 2 (by omega)) (fun u => by
    rw [hc13, HP6.out, HP12.out]
    exact ex_cf2 u)
  have hc3 : (5 : Int) + (0 - 1) * cf 1 (ps M6) = 3 := by rw [HP6.out]; rfl
  rw [hc3] at ht13
  have HT13 := hide ht13
  clear ht13 hc13 hb13 hHeld hc3
  go_wp2_with fail
  refine hK.out _ _ (HS.out _ HB13.out) (fun hHeld => ?_)
  clear hK K
  try simp only [Act.put, List.setIfInBounds_toArray, List.set_cons_zero, List.set_cons_succ]
  refine wpAnyH_ready (rs := [10]) (by kernel_rfl) (by simp) ?_
  refine AllReadyH.cons rfl (fun K hK => ?_) AllReadyH.nil
  go_simp
  refine (text_calls2 (HT13.out.few HP13.out (fun p hp => by simp at hp; subst hp; decide) (by decide) (by simp)) (by omega) (by omega) (tab_keep HTAB.out (bafter HB7.out HB13.out (Nat.le_refl _)))).mono ?_
  rintro e w14 ⟨l14, rfl, hn14, hc14, hb14⟩
  obtain rfl : l14 = [(2, 2)] := nf_unique hn14 (nf_one 2 2 (by omega)) (fun u => by rw [hc14, HP13.out])
  rw [ex_text2]
  have HB14 := hide (bafter HB13.out hb14 (Nat.le_refl _))
  clear hn14 hc14 hb14 hHeld
  go_wp2_with fail
  refine hK.out _ _ (HS.out _ HB14.out) (fun hHeld => ?_)
  clear hK K
  try simp only [Act.put, List.setIfInBounds_toArray, List.set_cons_zero, List.set_cons_succ]
  refine takeD (i := 11) (v := ?v5) (some 23) rfl (by kernel_rfl) (by kernel_rfl) (by kernel_rfl) (fun _ _ _ h => h) (Or.inl ⟨by rfl, ?hy5⟩) (by assumption) (by rfl) ?rest5
  case hy5 => first | (intro w hSw; (try dsimp only at hSw); obtain ⟨q0, q1, q2⟩ := hSw; go_simp; done) | (intro w hSw; (try dsimp only at hSw); obtain ⟨q0, q1, q2⟩ := hSw; go_simp; with_reducible rfl)
  try simp only [Act.put, List.setIfInBounds_toArray, List.set_cons_zero, List.set_cons_succ]
  refine takeD (i := 12) (v := ?v6) (some 24) rfl (by kernel_rfl) (by kernel_rfl) (by kernel_rfl) (fun _ _ _ h => h) (Or.inl ⟨by rfl, ?hy6⟩) (by assumption) (by rfl) ?rest6
  case hy6 => first | (intro w hSw; (try dsimp only at hSw); obtain ⟨q0, q1, q2⟩ := hSw; go_simp; done) | (intro w hSw; (try dsimp only at hSw); obtain ⟨q0, q1, q2⟩ := hSw; go_simp; with_reducible rfl)
  try simp only [Act.put, List.setIfInBounds_toArray, List.set_cons_zero, List.set_cons_succ]
  refine wpAnyH_ready (rs := [13]) (by kernel_rfl) (by simp) ?_
  refine AllReadyH.cons rfl (fun K hK => ?_) AllReadyH.nil
  go_simp
  refine hK.out _ _ (HS.out _ HB14.out) (fun hHeld => ?_)
  clear hK K hHeld
  try simp only [Act.put, List.setIfInBounds_toArray, List.set_cons_zero, List.set_cons_succ]
  refine wpAnyH_done (by kernel_rfl) ?_ _
  go_wp2
  go_ret
  exact ⟨rfl, bafter HB7.out HB14.out (Nat.le_refl _)⟩

end Go.Proofs.YtbjolmgobeagoaaGreatDoor
