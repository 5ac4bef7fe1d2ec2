/- The law LinearTexts, walked. -/
import Derived.Test.YtkdhcpfmlelfcaaGreatDoorLnP3
namespace Go.Proofs.YtkdhcpfmlelfcaaGreatDoor
set_option linter.unusedVariables false
set_option linter.unusedSimpArgs false
set_option maxRecDepth 100000
open Go Go.RowKit Go.Shelf Go.Lib
attribute [local go_sem] Oper.semAt_some

theorem text_same {c d : Int} {l m n : Ps} (hl : NF l) (hm : NF m) (hn : NF n) (h : ∀ u, cf u n = cf u l - cf u m) : ((⟨(textL c l).toArray⟩ : ByteArray).toList == (⟨(textL d m).toArray⟩ : ByteArray).toList) = (decide (n.length = 0) && decide (c - d = 0)) := by
  rw [toList_data, toList_data]
  simp only
  by_cases e : textL c l = textL d m
  · obtain ⟨rfl, rfl⟩ := textL_inj e
    obtain rfl : n = [] := nf_unique hn NF.nil (fun u => by rw [h, cf_nil]; omega)
    simp
  · have h1 : (textL c l == textL d m) = false := beq_eq_false_iff_ne.2 e
    rw [h1]
    symm
    rw [Bool.and_eq_false_iff]
    by_cases hcd : c - d = 0
    · left
      refine decide_eq_false (fun hz => e ?_)
      obtain rfl : n = [] := List.eq_nil_of_length_eq_zero hz
      obtain rfl : l = m := nf_unique hl hm (fun u => by have := h u; rw [cf_nil] at this; omega)
      obtain rfl : c = d := by omega
      rfl
    · right
      exact decide_eq_false hcd

set_option maxHeartbeats 16000000 in
theorem ltexts_calls (w : World) (v0 v1 : Value) (st : Int) {an : Bool} {aa : Option Addr} {aL ac : Nat} {ap : Option Addr} {al ak : Nat} {A : List Pt} {bn : Bool} {ba : Option Addr} {bL bc : Nat} {bp : Option Addr} {bl bk : Nat} {B : List Pt}
    (h : TermI w v0 an aa aL ac ap al ak A) (g : TermI w v1 bn ba bL bc bp bl bk B) (htab : TabIs Tryz.prog w "internal/strconv.uint64pow10" .u64 pow10Tab) :
    Calls Tryz.prog 6 #[v0, v1, .int .i64 st] w fun e w' => e = .returned (.bool true) ∧ Below w.heap.size w w' := by
  have e0 := h.1
  have e2 := g.1
  subst e0 e2
  have tb := (((Thr.new w (.bool an) (.slice aa aL ac) (.slice ap al ak) 27).alloc (.cells #[.bool bn, .slice ba bL bc, .slice bp bl bk] 27)).alloc (.cells #[.int .i64 st] 3)).alloc (.cells #[.bool false] 4)
  have tc := ((Thr.new1 w (.cells #[.bool an, .slice aa aL ac, .slice ap al ak] 27) (.bool bn) (.slice ba bL bc) (.slice bp bl bk) 27).alloc (.cells #[.int .i64 st] 3)).alloc (.cells #[.bool false] 4)
  have ts : Uno ((((w.alloc (.cells #[.bool an, .slice aa aL ac, .slice ap al ak] 27)).alloc (.cells #[.bool bn, .slice ba bL bc, .slice bp bl bk] 27)).alloc (.cells #[.int .i64 st] 3)).alloc (.cells #[.bool false] 4)) (w.heap.size + 1 + 1) (.int .i64 st) 3 := by
    have h1 : Uno (((w.alloc (.cells #[.bool an, .slice aa aL ac, .slice ap al ak] 27)).alloc (.cells #[.bool bn, .slice ba bL bc, .slice bp bl bk] 27)).alloc (.cells #[.int .i64 st] 3)) _ (.int .i64 st) 3 := World.alloc_heap_new ((w.alloc (.cells #[.bool an, .slice aa aL ac, .slice ap al ak] 27)).alloc (.cells #[.bool bn, .slice ba bL bc, .slice bp bl bk] 27)) (.cells #[.int .i64 st] 3)
    rw [World.size_alloc, World.size_alloc] at h1
    exact h1.keep (bel _ _)
  have tr : Uno ((((w.alloc (.cells #[.bool an, .slice aa aL ac, .slice ap al ak] 27)).alloc (.cells #[.bool bn, .slice ba bL bc, .slice bp bl bk] 27)).alloc (.cells #[.int .i64 st] 3)).alloc (.cells #[.bool false] 4)) (w.heap.size + 1 + 1 + 1) (.bool false) 4 := by
    have h1 : Uno ((((w.alloc (.cells #[.bool an, .slice aa aL ac, .slice ap al ak] 27)).alloc (.cells #[.bool bn, .slice ba bL bc, .slice bp bl bk] 27)).alloc (.cells #[.int .i64 st] 3)).alloc (.cells #[.bool false] 4)) _ (.bool false) 4 := World.alloc_heap_new (((w.alloc (.cells #[.bool an, .slice aa aL ac, .slice ap al ak] 27)).alloc (.cells #[.bool bn, .slice ba bL bc, .slice bp bl bk] 27)).alloc (.cells #[.int .i64 st] 3)) (.cells #[.bool false] 4)
    rw [World.size_alloc, World.size_alloc, World.size_alloc] at h1
    exact h1
  have hba : Below w.heap.size w ((((w.alloc (.cells #[.bool an, .slice aa aL ac, .slice ap al ak] 27)).alloc (.cells #[.bool bn, .slice ba bL bc, .slice bp bl bk] 27)).alloc (.cells #[.int .i64 st] 3)).alloc (.cells #[.bool false] 4)) := bafter (bel3 w (.cells #[.bool an, .slice aa aL ac, .slice ap al ak] 27) (.cells #[.bool bn, .slice ba bL bc, .slice bp bl bk] 27) (.cells #[.int .i64 st] 3)) (bel _ _) (Nat.le_refl _)
  generalize hwA : (((w.alloc (.cells #[.bool an, .slice aa aL ac, .slice ap al ak] 27)).alloc (.cells #[.bool bn, .slice ba bL bc, .slice bp bl bk] 27)).alloc (.cells #[.int .i64 st] 3)).alloc (.cells #[.bool false] 4) = wA at *
  have HWA := hide hwA
  have TB := hide tb
  have TC := hide tc
  have TS := hide ts
  have TR := hide tr
  have HBA := hide hba
  have HA := hide h
  have HB := hide g
  have HTAB := hide htab
  have hlt := h.light hba
  obtain ⟨c0, c1, c2, _, _, _⟩ := tb.every
  clear hwA tb tc ts tr hba h g htab
  refine calls_of_marks Tryz.func6 rfl ?_
  simp only [Tryz.ntmps6, List.size_toArray, List.length_cons, List.length_nil, Nat.reduceAdd, Nat.reduceSub, Array.replicate_succ, Array.replicate_zero, List.push_toArray, List.append_toArray, List.nil_append, List.cons_append]
  go_upto_region 1 with fail
  rw [HWA.out]
  go_wp2_with fail
  refine hlt.mono ?_
  rintro e w1 ⟨r1, rfl, hl1, hb1⟩
  have HB1 := hide hb1
  have HW1 := hide (bafter HBA.out hb1 (Nat.le_refl _))
  cases r1 with
  | false =>
    have hsm := summed_calls w1 (tab_keep HTAB.out HW1.out)
    clear hlt hl1 hb1 c0 c1 c2
    go_wp2_with fail
    refine hsm.mono ?_
    rintro e w2 ⟨rfl, hb2⟩
    have HW2 := hide (bafter HW1.out hb2 (Nat.le_refl _))
    have TR2 := hide ((TR.out.keep HB1.out).keep hb2)
    have r0 := TR2.out.c0
    have r1 := TR2.out.f0 0
    clear hsm hb2
    go_wp2
    refine ⟨.bool true, ?_, ⟨rfl, (HW2.out).setCell (p := ⟨w.heap.size + 1 + 1 + 1, 0, none⟩) (by show _ ≤ w.heap.size + 1 + 1 + 1; omega) _⟩⟩
    have e1 := (TR2.out.put (.bool true)).c0
    simp [results, Tryz.f6, go_sem, e1]
  | true =>
    have hLA := hl1.1 rfl
    have HLA := hide hLA
    have TC1 := hide (TC.out.keep hb1)
    obtain ⟨x0, x1, x2, _, _, _⟩ := TC1.out.every
    have hlt2 := HB.out.light HW1.out
    clear hlt hl1 hb1 c0 c1 c2 hLA
    go_wp2_with fail
    refine hlt2.mono ?_
    rintro e w2 ⟨r2, rfl, hl2, hb2⟩
    have HW2 := hide (bafter HW1.out hb2 (Nat.le_refl _))
    have HB2 := hide (bafter HB1.out hb2 (Nat.le_refl _))
    cases r2 with
    | false =>
      have hsm := summed_calls w2 (tab_keep HTAB.out HW2.out)
      clear hlt2 hl2 hb2 x0 x1 x2
      go_wp2_with fail
      refine hsm.mono ?_
      rintro e w3 ⟨rfl, hb3⟩
      have HW3 := hide (bafter HW2.out hb3 (Nat.le_refl _))
      have TR3 := hide ((TR.out.keep HB2.out).keep hb3)
      have r0 := TR3.out.c0
      have r1 := TR3.out.f0 0
      clear hsm hb3
      go_wp2
      refine ⟨.bool true, ?_, ⟨rfl, (HW3.out).setCell (p := ⟨w.heap.size + 1 + 1 + 1, 0, none⟩) (by show _ ≤ w.heap.size + 1 + 1 + 1; omega) _⟩⟩
      have e1 := (TR3.out.put (.bool true)).c0
      simp [results, Tryz.f6, go_sem, e1]
    | true =>
      obtain ⟨c, hbo⟩ := HA.out.both HLA.out
      obtain ⟨d, hbp⟩ := HB.out.both (hl2.1 rfl)
      have HBO := hide hbo
      have HBP := hide hbp
      obtain ⟨K9, hK9⟩ : ∃ K9, K9 = 200 := ⟨_, rfl⟩
      have HK9 := hide hK9
      have hK9' : K9 ≤ 1000 := by omega
      have hte := text_calls2 (HBO.out.term.below HW2.out) (by omega) (by omega) (tab_keep HTAB.out HW2.out)
      obtain ⟨y0, y1, y2, _, _, _⟩ := (TB.out.keep HB2.out).every
      clear hlt2 hl2 hb2 x0 x1 x2 hbo hbp hK9
      go_wp2_with fail
      refine hte.mono ?_
      rintro e w4 ⟨lA, rfl, hnA, hcA, hb4⟩
      have HW4 := hide (bafter HW2.out hb4 (Nat.le_refl _))
      have HB4 := hide (bafter HB2.out hb4 (Nat.le_refl _))
      have HNA := hide hnA
      have HCA := hide hcA
      generalize hsA : (⟨(textL c lA).toArray⟩ : ByteArray) = sA
      have HSA := hide hsA
      have HS : Hid (∀ X : World, Below w4.heap.size w4 X → X.cell? ⟨w.heap.size, 0, none⟩ = some (.bool an) ∧ X.cell? ⟨w.heap.size, 1, none⟩ = some (.slice aa aL ac) ∧ X.cell? ⟨w.heap.size, 2, none⟩ = some (.slice ap al ak) ∧ X.cell? ⟨w.heap.size + 1, 0, none⟩ = some (.bool bn) ∧ X.cell? ⟨w.heap.size + 1, 1, none⟩ = some (.slice ba bL bc) ∧ X.cell? ⟨w.heap.size + 1, 2, none⟩ = some (.slice bp bl bk)) := fun X hX => by
        have t1 := (TB.out.keep HB4.out).keep hX
        have t2 := (TC.out.keep HB4.out).keep hX
        exact ⟨t1.c0, t1.c1, t1.c2, t2.c0, t2.c1, t2.c2⟩
      clear hte hnA hcA hsA hb4 y0 y1 y2
      go_upto_region 4 with fail
      refine wp_region_held_drew (S := fun X : World => X.cell? ⟨w.heap.size, 0, none⟩ = some (.bool an) ∧ X.cell? ⟨w.heap.size, 1, none⟩ = some (.slice aa aL ac) ∧ X.cell? ⟨w.heap.size, 2, none⟩ = some (.slice ap al ak) ∧ X.cell? ⟨w.heap.size + 1, 0, none⟩ = some (.bool bn) ∧ X.cell? ⟨w.heap.size + 1, 1, none⟩ = some (.slice ba bL bc) ∧ X.cell? ⟨w.heap.size + 1, 2, none⟩ = some (.slice bp bl bk)) (by kernel_rfl) ?_ (fun hHeld => ?_)
      · exact HS.out _ (by (first | exact (Below.refl _ _).drew | exact Below.refl _ _))
      refine takeD (i := 0) (v := ?v1) (some 26) rfl (by kernel_rfl) (by kernel_rfl) (by kernel_rfl) (fun _ _ _ h => h) (Or.inl ⟨by rfl, ?hy1⟩) (by assumption) (by rfl) ?rest1
      case hy1 => first | (intro w hSw; (try dsimp only at hSw); obtain ⟨q0, q1, q2, q3, q4, q5⟩ := hSw; go_simp; done) | (intro w hSw; (try dsimp only at hSw); obtain ⟨q0, q1, q2, q3, q4, q5⟩ := hSw; go_simp; with_reducible rfl)
      try simp only [Act.put, List.setIfInBounds_toArray, List.set_cons_zero, List.set_cons_succ]
      refine takeD (i := 1) (v := ?v2) (some 27) rfl (by kernel_rfl) (by kernel_rfl) (by kernel_rfl) (fun _ _ _ h => h) (Or.inl ⟨by rfl, ?hy2⟩) (by assumption) (by rfl) ?rest2
      case hy2 => first | (intro w hSw; (try dsimp only at hSw); obtain ⟨q0, q1, q2, q3, q4, q5⟩ := hSw; go_simp; done) | (intro w hSw; (try dsimp only at hSw); obtain ⟨q0, q1, q2, q3, q4, q5⟩ := hSw; go_simp; with_reducible rfl)
      try simp only [Act.put, List.setIfInBounds_toArray, List.set_cons_zero, List.set_cons_succ]
      refine wpAnyH_ready (rs := [2]) (by kernel_rfl) (by simp) ?_
      refine AllReadyH.cons rfl (fun K hK => ?_) AllReadyH.nil
      go_simp
      refine (HBO.out.of (bafter HW4.out (by (first | exact (Below.refl _ _).drew | exact Below.refl _ _)) (Nat.le_refl _))).mono ?_
      rintro e w5 ⟨v5, M5, rfl, ht5, hq5, hb5⟩
      obtain ⟨un, ua, uL, uc, up, ul, uk, rfl⟩ := ht5.form
      have HB5 : Hid (Below w4.heap.size w4 w5) := bafter (by (first | exact (Below.refl _ _).drew | exact Below.refl _ _)) hb5 (Nat.le_refl _)
      have HT5 := hide ht5
      have HQ5 := hide hq5
      clear hb5 ht5 hq5 hHeld
      go_wp2_with fail
      refine hK.out _ _ (HS.out _ HB5.out) (fun hHeld => ?_)
      clear hK K
      try simp only [Act.put, List.setIfInBounds_toArray, List.set_cons_zero, List.set_cons_succ]
      refine wpAnyH_ready (rs := [3]) (by kernel_rfl) (by simp) ?_
      refine AllReadyH.cons rfl (fun K hK => ?_) AllReadyH.nil
      go_simp
      refine (rtextT_calls (K := 80) HT5.out HBO.out.cb (by rw [HQ5.out]; exact HBO.out.bnd) (by have h1 := congrArg List.length HQ5.out; rw [ps_length, ps_length] at h1; have := HBO.out.len; omega) (by omega)).mono ?_
      rintro e w6 ⟨l6, rfl, hn6, hc6, hb6⟩
      have HB6 : Hid (Below w4.heap.size w4 w6) := bafter HB5.out hb6 (Nat.le_refl _)
      have hlA : l6 = lA := nf_unique hn6 HNA.out (fun u => by rw [hc6, HQ5.out, HCA.out])
      rw [hlA, HSA.out]
      clear hb6 hn6 hc6 hHeld hlA
      go_wp2_with fail
      refine hK.out _ _ (HS.out _ HB6.out) (fun hHeld => ?_)
      clear hK K
      try simp only [Act.put, List.setIfInBounds_toArray, List.set_cons_zero, List.set_cons_succ]
      refine takeD (i := 4) (v := ?v3) (some 30) rfl (by kernel_rfl) (by kernel_rfl) (by kernel_rfl) (fun _ _ _ h => h) (Or.inl ⟨by rfl, ?hy3⟩) (by assumption) (by rfl) ?rest3
      case hy3 => first | (intro w hSw; (try dsimp only at hSw); obtain ⟨q0, q1, q2, q3, q4, q5⟩ := hSw; go_simp; done) | (intro w hSw; (try dsimp only at hSw); obtain ⟨q0, q1, q2, q3, q4, q5⟩ := hSw; go_simp; with_reducible rfl)
      try simp only [Act.put, List.setIfInBounds_toArray, List.set_cons_zero, List.set_cons_succ]
      refine takeD (i := 5) (v := ?v4) (some 31) rfl (by kernel_rfl) (by kernel_rfl) (by kernel_rfl) (fun _ _ _ h => h) (Or.inl ⟨by rfl, ?hy4⟩) (by assumption) (by rfl) ?rest4
      case hy4 => first | (intro w hSw; (try dsimp only at hSw); obtain ⟨q0, q1, q2, q3, q4, q5⟩ := hSw; go_simp; done) | (intro w hSw; (try dsimp only at hSw); obtain ⟨q0, q1, q2, q3, q4, q5⟩ := hSw; go_simp; with_reducible rfl)
      try simp only [Act.put, List.setIfInBounds_toArray, List.set_cons_zero, List.set_cons_succ]
      refine takeD (i := 6) (v := ?v5) (some 32) rfl (by kernel_rfl) (by kernel_rfl) (by kernel_rfl) (fun _ _ _ h => h) (Or.inl ⟨by rfl, ?hy5⟩) (by assumption) (by rfl) ?rest5
      case hy5 => first | (intro w hSw; (try dsimp only at hSw); obtain ⟨q0, q1, q2, q3, q4, q5⟩ := hSw; go_simp; done) | (intro w hSw; (try dsimp only at hSw); obtain ⟨q0, q1, q2, q3, q4, q5⟩ := hSw; go_simp; with_reducible rfl)
      try simp only [Act.put, List.setIfInBounds_toArray, List.set_cons_zero, List.set_cons_succ]
      refine takeD (i := 7) (v := ?v6) (some 33) rfl (by kernel_rfl) (by kernel_rfl) (by kernel_rfl) (fun _ _ _ h => h) (Or.inl ⟨by rfl, ?hy6⟩) (by assumption) (by rfl) ?rest6
      case hy6 => first | (intro w hSw; (try dsimp only at hSw); obtain ⟨q0, q1, q2, q3, q4, q5⟩ := hSw; go_simp; done) | (intro w hSw; (try dsimp only at hSw); obtain ⟨q0, q1, q2, q3, q4, q5⟩ := hSw; go_simp; with_reducible rfl)
      try simp only [Act.put, List.setIfInBounds_toArray, List.set_cons_zero, List.set_cons_succ]
      refine takeD (i := 10) (v := ?v7) (some 36) rfl (by kernel_rfl) (by kernel_rfl) (by kernel_rfl) (fun _ _ _ h => h) (Or.inl ⟨by rfl, ?hy7⟩) (by assumption) (by rfl) ?rest7
      case hy7 => first | (intro w hSw; (try dsimp only at hSw); obtain ⟨q0, q1, q2, q3, q4, q5⟩ := hSw; go_simp; done) | (intro w hSw; (try dsimp only at hSw); obtain ⟨q0, q1, q2, q3, q4, q5⟩ := hSw; go_simp; with_reducible rfl)
      try simp only [Act.put, List.setIfInBounds_toArray, List.set_cons_zero, List.set_cons_succ]
      refine takeD (i := 11) (v := ?v8) (some 37) rfl (by kernel_rfl) (by kernel_rfl) (by kernel_rfl) (fun _ _ _ h => h) (Or.inl ⟨by rfl, ?hy8⟩) (by assumption) (by rfl) ?rest8
      case hy8 => first | (intro w hSw; (try dsimp only at hSw); obtain ⟨q0, q1, q2, q3, q4, q5⟩ := hSw; go_simp; done) | (intro w hSw; (try dsimp only at hSw); obtain ⟨q0, q1, q2, q3, q4, q5⟩ := hSw; go_simp; with_reducible rfl)
      try simp only [Act.put, List.setIfInBounds_toArray, List.set_cons_zero, List.set_cons_succ]
      refine wpAnyH_ready (rs := [8]) (by kernel_rfl) (by simp) ?_
      refine AllReadyH.cons rfl (fun K hK => ?_) AllReadyH.nil
      go_simp
      refine (text_calls2 (HBP.out.term.below (bafter HW4.out HB6.out (Nat.le_refl _))) (by omega) (by omega) (tab_keep HTAB.out (bafter HW4.out HB6.out (Nat.le_refl _)))).mono ?_
      rintro e w7 ⟨lB, rfl, hn7, hc7, hb7⟩
      have HB7 : Hid (Below w4.heap.size w4 w7) := bafter HB6.out hb7 (Nat.le_refl _)
      have HN7 := hide hn7
      have HC7 := hide hc7
      generalize htB : (⟨(textL d lB).toArray⟩ : ByteArray) = tB
      have HTB := hide htB
      clear hb7 hn7 hc7 htB hHeld
      go_wp2_with fail
      refine hK.out _ _ (HS.out _ HB7.out) (fun hHeld => ?_)
      clear hK K
      try simp only [Act.put, List.setIfInBounds_toArray, List.set_cons_zero, List.set_cons_succ]
      obtain ⟨qb, hqb⟩ : ∃ qb, qb = (sA.toList == tB.toList) := ⟨_, rfl⟩
      have HQB := hide hqb
      have e9 : (sA.toList == tB.toList) = qb := hqb.symm
      clear hqb
      refine takeD (i := 9) (v := ?v9) (some 35) rfl (by kernel_rfl) (by kernel_rfl) (by kernel_rfl) (fun _ _ _ h => h) (Or.inl ⟨by rfl, ?hy9⟩) (by assumption) (by rfl) ?rest9
      case hy9 => first | (intro w hSw; (try dsimp only at hSw); obtain ⟨q0, q1, q2, q3, q4, q5⟩ := hSw; go_simp; done) | (intro w hSw; (try dsimp only at hSw); obtain ⟨q0, q1, q2, q3, q4, q5⟩ := hSw; go_simp; with_reducible rfl)
      try simp only [Act.put, List.setIfInBounds_toArray, List.set_cons_zero, List.set_cons_succ]
      clear e9
      refine wpAnyH_ready (rs := [12]) (by kernel_rfl) (by simp) ?_
      refine AllReadyH.cons rfl (fun K hK => ?_) AllReadyH.nil
      go_simp
      refine (lequal_calls (HBO.out.term.below (bafter HW4.out HB7.out (Nat.le_refl _))) (HBP.out.term.below (bafter HW4.out HB7.out (Nat.le_refl _))) (by omega) (by have := HBO.out.len; have := HBP.out.len; omega)).mono ?_
      rintro e w8 ⟨l8, rfl, hn8, hc8, hb8⟩
      have HB8 : Hid (Below w4.heap.size w4 w8) := bafter HB7.out hb8 (Nat.le_refl _)
      have heq : (decide (l8.length = 0) && decide (c - d = 0)) = qb := by
        rw [HQB.out, ← HSA.out, ← HTB.out]
        exact (text_same HNA.out HN7.out hn8 (fun u => by rw [hc8, HCA.out, HC7.out])).symm
      rw [heq]
      clear hb8 hn8 hc8 heq hHeld
      go_wp2_with fail
      refine hK.out _ _ (HS.out _ HB8.out) (fun hHeld => ?_)
      clear hK K
      try simp only [Act.put, List.setIfInBounds_toArray, List.set_cons_zero, List.set_cons_succ]
      refine takeD (i := 13) (v := ?v10) (some 39) rfl (by kernel_rfl) (by kernel_rfl) (by kernel_rfl) (fun _ _ _ h => h) (Or.inl ⟨by rfl, ?hy10⟩) (by assumption) (by rfl) ?rest10
      case hy10 => first | (intro w hSw; (try dsimp only at hSw); obtain ⟨q0, q1, q2, q3, q4, q5⟩ := hSw; go_simp; done) | (intro w hSw; (try dsimp only at hSw); obtain ⟨q0, q1, q2, q3, q4, q5⟩ := hSw; go_simp; with_reducible rfl)
      try simp only [Act.put, List.setIfInBounds_toArray, List.set_cons_zero, List.set_cons_succ]
      refine takeD (i := 14) (v := ?v11) (some 40) rfl (by kernel_rfl) (by kernel_rfl) (by kernel_rfl) (fun _ _ _ h => h) (Or.inl ⟨by rfl, ?hy11⟩) (by assumption) (by rfl) ?rest11
      case hy11 => first | (intro w hSw; (try dsimp only at hSw); obtain ⟨q0, q1, q2, q3, q4, q5⟩ := hSw; go_simp; done) | (intro w hSw; (try dsimp only at hSw); obtain ⟨q0, q1, q2, q3, q4, q5⟩ := hSw; go_simp; with_reducible rfl)
      try simp only [Act.put, List.setIfInBounds_toArray, List.set_cons_zero, List.set_cons_succ]
      clear hHeld
      refine wpAnyH_done (by kernel_rfl) ?_ _
      have HW8 := hide (bafter HW4.out HB8.out (Nat.le_refl _))
      have HB48 := hide (bafter HB4.out HB8.out (Nat.le_refl _))
      have hof := HBO.out.of HW8.out
      obtain ⟨y0, y1, y2, _, _, _⟩ := (TB.out.keep HB48.out).every
      clear HS
      go_wp2_with fail
      refine hof.mono ?_
      rintro e w9 ⟨v9, M5, rfl, ht5, hq5, hb9⟩
      obtain ⟨un, ua, uL, uc, up, ul, uk, rfl⟩ := ht5.form
      have hno := rnormTF_calls (K := 80) ht5 HBO.out.cb (by rw [hq5]; exact HBO.out.bnd) (by have h1 := congrArg List.length hq5; rw [ps_length, ps_length] at h1; have := HBO.out.len; omega) (by omega)
      have HB9 := hide (bafter HB48.out hb9 (Nat.le_refl _))
      have HQ5 := hide hq5
      clear hof hb9 ht5 hq5 y0 y1 y2
      go_wp2_with fail
      refine hno.mono ?_
      rintro e w10 ⟨v10, M8, rfl, ht10, ⟨hn10, hc10⟩, hf10, hb10⟩
      have HF10 := hide hf10
      clear hf10
      obtain ⟨xn, xa, xL, xc, xp, xl, xk, rfl, hx10, hr10, hg10⟩ := ht10
      have hpl := hr10
      obtain ⟨_, _, e, _, _, _⟩ := hpl
      simp only [Value.slice.injEq] at e
      obtain ⟨rfl, rfl, rfl⟩ := e
      have hl10 : M8.length ≤ 12 := by
        have h1 := len_ps hn10 hc10
        have h2 := congrArg List.length HQ5.out
        rw [ps_length] at h1
        rw [ps_length, ps_length] at h2
        have := HBO.out.len
        omega
      have HB10 := hide (bafter HB9.out hb10 (Nat.le_refl _))
      have HN10 := hide hn10
      have HC10 : Hid (∀ u, cf u (ps M8) = cf u (ps A)) := fun u => by rw [hc10, HQ5.out]
      have hfp := field_parts w10
      generalize hLn : M8.length = Ln at *
      have HLN := hide hLn
      have HLL := hide hl10
      have hbx := bel w10 (.cells #[.slice xp Ln xk] 33)
      have tp : Uno (w10.alloc (.cells #[.slice xp Ln xk] 33)) w10.heap.size (.slice xp Ln xk) 33 := World.alloc_heap_new w10 _
      have TP := hide tp
      have HR10 := hide (hr10.below hbx)
      have HG10 := hide (hg10.below hbx)
      have HB11 := hide (bafter HB10.out hbx (Nat.le_refl _))
      have HZ11 : Hid (w10.heap.size < (w10.alloc (.cells #[.slice xp Ln xk] 33)).heap.size) := by show _ < _; rw [World.size_alloc]; omega
      have HSZ : Hid (w.heap.size + 1 + 1 < w10.heap.size) := (TS.out.keep HB10.out).lt
      have HSZ9 : Hid (w.heap.size + 1 + 1 < w9.heap.size) := (TS.out.keep HB9.out).lt
      clear hno hn10 hc10 hx10 hr10 hg10 hb10 hLn hl10 hbx tp
      go_upto_region 7 with fail
      clear hfp
      generalize hw11 : w10.alloc (.cells #[.slice xp Ln xk] 33) = w11 at *
      have y0 := (TS.out.keep HB11.out).c0
      have y1 := (TS.out.keep HB11.out).f0 0
      clear hw11
      go_upto_region 8 with fail
      clear y0 y1
      generalize hsp : wrap64 ((IntKind.u64.wrap st).tmod 8) = sp
      clear hsp
      have HTS := hide ((TS.out.keep HB11.out).put (.int .i64 sp))
      have hno := noUn (w.heap.size + 1 + 1) w11 (.int .i64 sp)
      have HTA : Hid (Thr (w11.setCell ⟨w.heap.size + 1 + 1, 0, none⟩ (.int .i64 sp)) w.heap.size (.bool an) (.slice aa aL ac) (.slice ap al ak) 27) := (hno w.heap.size (by omega)).trans (TB.out.keep HB11.out)
      have HTR : Hid (Uno (w11.setCell ⟨w.heap.size + 1 + 1, 0, none⟩ (.int .i64 sp)) (w.heap.size + 1 + 1 + 1) (.bool false) 4) := (hno (w.heap.size + 1 + 1 + 1) (by omega)).trans (TR.out.keep HB11.out)
      have HTP : Hid (Uno (w11.setCell ⟨w.heap.size + 1 + 1, 0, none⟩ (.int .i64 sp)) w10.heap.size (.slice xp Ln xk) 33) := (hno w10.heap.size (by have := HSZ.out; omega)).trans TP.out
      have HRS := hide (hno.row (TS.out.keep HB11.out) HR10.out)
      have HGS := hide (hno.goodN HF10.out HSZ9.out HG10.out)
      have HWS := hide ((bafter HBA.out HB11.out (Nat.le_refl _)).setCell (p := ⟨w.heap.size + 1 + 1, 0, none⟩) (by show _ ≤ w.heap.size + 1 + 1; omega) (.int .i64 sp))
      generalize hws : w11.setCell ⟨w.heap.size + 1 + 1, 0, none⟩ (.int .i64 sp) = ws at *
      have hvars := vars_calls (HBO.out.term.below HWS.out) (by omega)
      obtain ⟨z0, z1, z2, _, _, _⟩ := HTA.out.every
      clear hws hno
      go_wp2_with fail
      refine hvars.mono ?_
      clear hvars z0 z1 z2
      rintro e w12 ⟨B0, M9, a9, l9, k9, rfl, hu9, hB0, ho9, hg9, hn9, hc9, hb12⟩
      have F1 := hide hu9
      have F2 := hide ho9.row
      have F3 := hide hg9
      have F4 := hide (HTS.out.keep hb12)
      have F5 := hide (HTR.out.keep hb12)
      have F6 := hide (HTP.out.keep hb12)
      have F7 := hide (HRS.out.below hb12)
      have F8 := hide (HGS.out.below hb12)
      have HW12 := hide (bafter HWS.out hb12 (Nat.le_refl _))
      have HPS : Hid (ps M9 = ps M8) := nf_unique hn9 HN10.out (fun u => by rw [hc9, HC10.out])
      have HLM : Hid (M9.length = Ln) := by
        have h1 := congrArg List.length HPS.out
        rw [ps_length, ps_length, HLN.out] at h1
        exact h1
      have HBN : Hid (BndT K9 (ps M9)) := bndT_up (nf_bndT hn9 hc9 HBO.out.bnd) (by rw [ps_length]; have := HBO.out.len; have := HK9.out; omega)
      clear hu9 hB0 ho9 hg9 hn9 hc9 hb12
      go_wp2_with fail
      have tn : Uno (w12.alloc (.cells #[.int .i64 0] 3)) w12.heap.size (.int .i64 ((0 : Nat) : Int)) 3 := World.alloc_heap_new w12 _
      have hb13 := bel w12 (.cells #[.int .i64 0] 3)
      refine (wpIn_wide (n := 3)).1 ?_
      refine range_knownE (gf := 74) (lb := #[.pointer (some ⟨B0, 0, none⟩)]) ?hg (enters_of Tryz.func74 (by kernel_rfl) rfl)
        (vars_hands B0 (.slice a9 l9 k9) M9 F3.out.sl (by have := HLL.out; have := HLM.out; omega)) (fun _ => rfl)
        (fun i W => Uno W w12.heap.size (.int .i64 (i : Int)) 3 ∧ VarsKnow B0 (.slice a9 l9 k9) M9 W)
        (fun c i W => c = .exit 0 ∧ Uno W w12.heap.size (.int .i64 (i : Int)) 3 ∧ VarsKnow B0 (.slice a9 l9 k9) M9 W) (fun i W W' hj hc => ⟨hc.uno hj.1, hj.2.cel hc⟩) (fun c i W W' hj hc => ⟨hj.1, hc.uno hj.2.1, hj.2.2.cel hc⟩)
        (fun _ W => w12.heap.size ≤ W.heap.size) (fun _ _ _ _ h hg _ => Nat.le_trans h hg.size) (fun _ _ _ h hb => Nat.le_trans h hb.size) w12.heap.size w12 (Nat.le_refl _) (by rw [World.size_alloc]; omega)
        (fun i W hj => hj.2) ⟨⟨⟨tn, ⟨(F1.out.keep hb13).c0, F2.out.below hb13⟩⟩, hb13.size⟩, hb13⟩
        (fun i => .cells #[.bool (atP M9 i).2.1, (atP M9 i).2.2.1] 24) (fun _ => rfl) ?a1 ?assign ?body ?done ?stop
      case hg => rfl
      case assign =>
        intro l i B W K hi hB hK
        obtain ⟨ma, mL, mc, hsl⟩ := F3.out.sl (atP M9 i) (by rw [atP_of (List.getElem?_eq_getElem hi)]; exact List.getElem_mem hi)
        unfold varV
        rw [hsl]
        have HSL := hide hsl
        have HBE := hide hB
        generalize hA1 : (atP M9 i).1 = vr at *
        generalize hA2 : (atP M9 i).2.1 = nb at *
        have HA1 := hide hA1
        have HA2 := hide hA2
        clear hsl hB hA1 hA2
        gi_wp2
        have hsl := HSL.out
        have hB := HBE.out
        have hA1 := HA1.out
        have hA2 := HA2.out
        rw [hB]
        subst hA1
        subst hA2
        rw [← hsl]
        exact hK
      case body =>
        rintro l i B W hi ⟨jn, jk⟩ jX hbw hB hBlt
        obtain ⟨⟨vr, nb, mv, cz⟩, hm⟩ : ∃ m, M9[i]? = some m := ⟨_, List.getElem?_eq_getElem hi⟩
        obtain ⟨ma, mL, mc, e⟩ := F3.out.sl _ (List.mem_of_getElem? hm)
        simp only at e
        subst e
        try dsimp only
        rw [atP_of hm] at hB ⊢
        have hiL : i < Ln := by have := HLM.out; omega
        obtain ⟨⟨vr2, pn, pv, cz2⟩, hm2⟩ : ∃ m, M8[i]? = some m := ⟨_, List.getElem?_eq_getElem (by rw [HLN.out]; exact hiL)⟩
        obtain ⟨qa, qL, qc, e⟩ := F8.out.sl _ (List.mem_of_getElem? hm2)
        simp only at e
        subst e
        have hpe : vr2 = vr ∧ cz2 = cz := by
          have h1 := congrArg (fun l => l[i]?) HPS.out
          simp only [ps, List.getElem?_map, hm, hm2, Option.map_some, pt, Option.some.injEq, Prod.mk.injEq] at h1
          exact ⟨h1.1.symm, h1.2.symm⟩
        obtain ⟨hpe1, hpe2⟩ := hpe
        subst hpe1 hpe2
        obtain ⟨pb, po, hxp, hc⟩ : ∃ pb po, xp = some ⟨pb, po, none⟩ ∧ CellsP w12 pb (po + i * 3) (vr2, pn, .slice qa qL qc, cz2) := by
          obtain ⟨_, _, e, _, _, h3⟩ := F7.out
          simp only [Value.slice.injEq] at e
          obtain ⟨e1, _, _⟩ := e
          obtain ⟨pb, po, e2, hc⟩ := h3 i _ hm2
          exact ⟨pb, po, by rw [e1, e2], hc⟩
        subst hxp
        have HC := hide hc
        have hB' : Two W B (.bool nb) (.slice ma mL mc) 24 := hB
        have hcb : cz2.natAbs < 10 ^ K9 := HBN.out (vr2, cz2) (List.mem_map.2 ⟨_, List.mem_of_getElem? hm, rfl⟩)
        have HSAME := hide (fun (Y : World) (hY : Below W.heap.size W Y) => gsame_true (K := K9) (((F3.out.below hbw) _ (List.mem_of_getElem? hm)).2.below hY) ((((F8.out.below hbw) _ (List.mem_of_getElem? hm2)).2.below hY).arg hcb) (by omega))
        have d1' : decide ((Ln : Int) ≤ (i : Int)) = false := decide_eq_false (by omega)
        have d1n : decide (Ln ≤ i) = false := decide_eq_false (by omega)
        have d2 : (i : Int) < (Ln : Int) := by omega
        have d0 : (0 : Int) ≤ (i : Int) := by omega
        have d3 : (vr2 != vr2) = false := by simp
        have HJN := hide jn
        have HJX := hide jX
        have HJK := hide jk
        have HBB := hide hB'
        have HBW := hide hbw
        have HS : Hid (∀ Y : World, Below W.heap.size W Y → Y.cell? ⟨w12.heap.size, 0, none⟩ = some (.int .i64 (i : Int)) ∧ Y.cell? ⟨w10.heap.size, 0, none⟩ = some (.slice (some ⟨pb, po, none⟩) Ln xk) ∧ Y.cell? ⟨pb, po + i * 3, none⟩ = some (.int .i64 vr2) ∧ Y.cell? ⟨pb, po + i * 3 + 1, none⟩ = some (.bool pn) ∧ Y.cell? ⟨pb, po + i * 3 + 2, none⟩ = some (.slice qa qL qc) ∧ Y.cell? ⟨B, 0, none⟩ = some (.bool nb) ∧ Y.cell? ⟨B, 1, none⟩ = some (.slice ma mL mc)) := fun Y hY => by
          obtain ⟨h1, h2, h3⟩ := (HC.out.below HBW.out).below hY
          exact ⟨(HJN.out.keep hY).c0, ((F6.out.keep HBW.out).keep hY).c0, h1, h2, h3, (HBB.out.keep hY).c0, (HBB.out.keep hY).c1⟩
        have s0 := (F4.out.keep hbw).c0
        have n0 := jn.c0
        have wn : IntKind.i64.wrap ((i : Int) + 1) = (i : Int) + 1 := wrapN (by omega) (by have := HLL.out; omega)
        clear jn jk jX hbw hB hB' hBlt hm hm2 hc hcb
        by_cases hS : (i : Int) ≥ sp
        · have dS : decide (sp ≤ (i : Int)) = true := decide_eq_true hS
          clear d1' d1n d2 d3
          gi_wp2
          exact ⟨KeepsFrom.refl _ _, ⟨⟨rfl, HJN.out, HJK.out⟩, HJX.out⟩, HBW.out⟩
        · have dS : decide (sp ≤ (i : Int)) = false := decide_eq_false hS
          gi_wp2_with fail
          refine round_any 1 l (by kernel_rfl) (no_defer (by simp)) (by rintro ⟨_, _, h⟩; exact h) (wpAny_of_held (S := fun Y : World => Y.cell? ⟨w12.heap.size, 0, none⟩ = some (.int .i64 (i : Int)) ∧ Y.cell? ⟨w10.heap.size, 0, none⟩ = some (.slice (some ⟨pb, po, none⟩) Ln xk) ∧ Y.cell? ⟨pb, po + i * 3, none⟩ = some (.int .i64 vr2) ∧ Y.cell? ⟨pb, po + i * 3 + 1, none⟩ = some (.bool pn) ∧ Y.cell? ⟨pb, po + i * 3 + 2, none⟩ = some (.slice qa qL qc) ∧ Y.cell? ⟨B, 0, none⟩ = some (.bool nb) ∧ Y.cell? ⟨B, 1, none⟩ = some (.slice ma mL mc)) _ _ _ _ ?_)
          have hHeld : (fun Y : World => Y.cell? ⟨w12.heap.size, 0, none⟩ = some (.int .i64 (i : Int)) ∧ Y.cell? ⟨w10.heap.size, 0, none⟩ = some (.slice (some ⟨pb, po, none⟩) Ln xk) ∧ Y.cell? ⟨pb, po + i * 3, none⟩ = some (.int .i64 vr2) ∧ Y.cell? ⟨pb, po + i * 3 + 1, none⟩ = some (.bool pn) ∧ Y.cell? ⟨pb, po + i * 3 + 2, none⟩ = some (.slice qa qL qc) ∧ Y.cell? ⟨B, 0, none⟩ = some (.bool nb) ∧ Y.cell? ⟨B, 1, none⟩ = some (.slice ma mL mc)) W.drew := HS.out _ ((Below.refl _ _).drew)
          refine takeD (i := 0) (v := ?v12) (some 57) rfl (by kernel_rfl) (by kernel_rfl) (by kernel_rfl) (fun _ _ _ h => h) (Or.inl ⟨by rfl, ?hy12⟩) (by assumption) (by rfl) ?rest12
          case hy12 => first | (intro w hSw; (try dsimp only at hSw); obtain ⟨q0, q1, q2, q3, q4, q5, q6⟩ := hSw; go_simp; done) | (intro w hSw; (try dsimp only at hSw); obtain ⟨q0, q1, q2, q3, q4, q5, q6⟩ := hSw; go_simp; with_reducible rfl)
          try simp only [Act.put, List.setIfInBounds_toArray, List.set_cons_zero, List.set_cons_succ]
          refine takeD (i := 1) (v := ?v13) (some 58) rfl (by kernel_rfl) (by kernel_rfl) (by kernel_rfl) (fun _ _ _ h => h) (Or.inl ⟨by rfl, ?hy13⟩) (by assumption) (by rfl) ?rest13
          case hy13 => first | (intro w hSw; (try dsimp only at hSw); obtain ⟨q0, q1, q2, q3, q4, q5, q6⟩ := hSw; go_simp; done) | (intro w hSw; (try dsimp only at hSw); obtain ⟨q0, q1, q2, q3, q4, q5, q6⟩ := hSw; go_simp; with_reducible rfl)
          try simp only [Act.put, List.setIfInBounds_toArray, List.set_cons_zero, List.set_cons_succ]
          refine takeD (i := 2) (v := ?v14) (some 59) rfl (by kernel_rfl) (by kernel_rfl) (by kernel_rfl) (fun _ _ _ h => h) (Or.inl ⟨by rfl, ?hy14⟩) (by assumption) (by rfl) ?rest14
          case hy14 => first | (intro w hSw; (try dsimp only at hSw); obtain ⟨q0, q1, q2, q3, q4, q5, q6⟩ := hSw; go_simp; done) | (intro w hSw; (try dsimp only at hSw); obtain ⟨q0, q1, q2, q3, q4, q5, q6⟩ := hSw; go_simp; with_reducible rfl)
          try simp only [Act.put, List.setIfInBounds_toArray, List.set_cons_zero, List.set_cons_succ]
          refine takeD (i := 3) (v := ?v15) (some 60) rfl (by kernel_rfl) (by kernel_rfl) (by kernel_rfl) (fun _ _ _ h => h) (Or.inl ⟨by rfl, ?hy15⟩) (by assumption) (by rfl) ?rest15
          case hy15 => first | (intro w hSw; (try dsimp only at hSw); obtain ⟨q0, q1, q2, q3, q4, q5, q6⟩ := hSw; go_simp; done) | (intro w hSw; (try dsimp only at hSw); obtain ⟨q0, q1, q2, q3, q4, q5, q6⟩ := hSw; go_simp; with_reducible rfl)
          try simp only [Act.put, List.setIfInBounds_toArray, List.set_cons_zero, List.set_cons_succ]
          refine takeD (i := 4) (v := ?v16) (some 61) rfl (by kernel_rfl) (by kernel_rfl) (by kernel_rfl) (fun _ _ _ h => h) (Or.inl ⟨by rfl, ?hy16⟩) (by assumption) (by rfl) ?rest16
          case hy16 => first | (intro w hSw; (try dsimp only at hSw); obtain ⟨q0, q1, q2, q3, q4, q5, q6⟩ := hSw; go_simp; done) | (intro w hSw; (try dsimp only at hSw); obtain ⟨q0, q1, q2, q3, q4, q5, q6⟩ := hSw; go_simp; with_reducible rfl)
          try simp only [Act.put, List.setIfInBounds_toArray, List.set_cons_zero, List.set_cons_succ]
          refine takeD (i := 5) (v := ?v17) (some 62) rfl (by kernel_rfl) (by kernel_rfl) (by kernel_rfl) (fun _ _ _ h => h) (Or.inl ⟨by rfl, ?hy17⟩) (by assumption) (by rfl) ?rest17
          case hy17 => first | (intro w hSw; (try dsimp only at hSw); obtain ⟨q0, q1, q2, q3, q4, q5, q6⟩ := hSw; go_simp; done) | (intro w hSw; (try dsimp only at hSw); obtain ⟨q0, q1, q2, q3, q4, q5, q6⟩ := hSw; go_simp; with_reducible rfl)
          try simp only [Act.put, List.setIfInBounds_toArray, List.set_cons_zero, List.set_cons_succ]
          refine takeD (i := 6) (v := ?v18) (some 63) rfl (by kernel_rfl) (by kernel_rfl) (by kernel_rfl) (fun _ _ _ h => h) (Or.inl ⟨by rfl, ?hy18⟩) (by assumption) (by rfl) ?rest18
          case hy18 => first | (intro w hSw; (try dsimp only at hSw); obtain ⟨q0, q1, q2, q3, q4, q5, q6⟩ := hSw; go_simp; done) | (intro w hSw; (try dsimp only at hSw); obtain ⟨q0, q1, q2, q3, q4, q5, q6⟩ := hSw; go_simp; with_reducible rfl)
          try simp only [Act.put, List.setIfInBounds_toArray, List.set_cons_zero, List.set_cons_succ]
          refine takeD (i := 7) (v := ?v19) (some 64) rfl (by kernel_rfl) (by kernel_rfl) (by kernel_rfl) (fun _ _ _ h => h) (Or.inl ⟨by rfl, ?hy19⟩) (by assumption) (by rfl) ?rest19
          case hy19 => first | (intro w hSw; (try dsimp only at hSw); obtain ⟨q0, q1, q2, q3, q4, q5, q6⟩ := hSw; go_simp; done) | (intro w hSw; (try dsimp only at hSw); obtain ⟨q0, q1, q2, q3, q4, q5, q6⟩ := hSw; go_simp; with_reducible rfl)
          try simp only [Act.put, List.setIfInBounds_toArray, List.set_cons_zero, List.set_cons_succ]
          refine takeD (i := 8) (v := ?v20) (some 65) rfl (by kernel_rfl) (by kernel_rfl) (by kernel_rfl) (fun _ _ _ h => h) (Or.inl ⟨by rfl, ?hy20⟩) (by assumption) (by rfl) ?rest20
          case hy20 => first | (intro w hSw; (try dsimp only at hSw); obtain ⟨q0, q1, q2, q3, q4, q5, q6⟩ := hSw; go_simp; done) | (intro w hSw; (try dsimp only at hSw); obtain ⟨q0, q1, q2, q3, q4, q5, q6⟩ := hSw; go_simp; with_reducible rfl)
          try simp only [Act.put, List.setIfInBounds_toArray, List.set_cons_zero, List.set_cons_succ]
          refine takeD (i := 9) (v := ?v21) (some 66) rfl (by kernel_rfl) (by kernel_rfl) (by kernel_rfl) (fun _ _ _ h => h) (Or.inl ⟨by rfl, ?hy21⟩) (by assumption) (by rfl) ?rest21
          case hy21 => first | (intro w hSw; (try dsimp only at hSw); obtain ⟨q0, q1, q2, q3, q4, q5, q6⟩ := hSw; go_simp; done) | (intro w hSw; (try dsimp only at hSw); obtain ⟨q0, q1, q2, q3, q4, q5, q6⟩ := hSw; go_simp; with_reducible rfl)
          try simp only [Act.put, List.setIfInBounds_toArray, List.set_cons_zero, List.set_cons_succ]
          refine takeD (i := 10) (v := ?v22) (some 67) rfl (by kernel_rfl) (by kernel_rfl) (by kernel_rfl) (fun _ _ _ h => h) (Or.inl ⟨by rfl, ?hy22⟩) (by assumption) (by rfl) ?rest22
          case hy22 => first | (intro w hSw; (try dsimp only at hSw); obtain ⟨q0, q1, q2, q3, q4, q5, q6⟩ := hSw; go_simp; done) | (intro w hSw; (try dsimp only at hSw); obtain ⟨q0, q1, q2, q3, q4, q5, q6⟩ := hSw; go_simp; with_reducible rfl)
          try simp only [Act.put, List.setIfInBounds_toArray, List.set_cons_zero, List.set_cons_succ]
          refine takeD (i := 11) (v := ?v23) (some 68) rfl (by kernel_rfl) (by kernel_rfl) (by kernel_rfl) (fun _ _ _ h => h) (Or.inl ⟨by rfl, ?hy23⟩) (by assumption) (by rfl) ?rest23
          case hy23 => first | (intro w hSw; (try dsimp only at hSw); obtain ⟨q0, q1, q2, q3, q4, q5, q6⟩ := hSw; go_simp; done) | (intro w hSw; (try dsimp only at hSw); obtain ⟨q0, q1, q2, q3, q4, q5, q6⟩ := hSw; go_simp; with_reducible rfl)
          try simp only [Act.put, List.setIfInBounds_toArray, List.set_cons_zero, List.set_cons_succ]
          refine takeD (i := 12) (v := ?v24) (some 69) rfl (by kernel_rfl) (by kernel_rfl) (by kernel_rfl) (fun _ _ _ h => h) (Or.inl ⟨by rfl, ?hy24⟩) (by assumption) (by rfl) ?rest24
          case hy24 => first | (intro w hSw; (try dsimp only at hSw); obtain ⟨q0, q1, q2, q3, q4, q5, q6⟩ := hSw; go_simp; done) | (intro w hSw; (try dsimp only at hSw); obtain ⟨q0, q1, q2, q3, q4, q5, q6⟩ := hSw; go_simp; with_reducible rfl)
          try simp only [Act.put, List.setIfInBounds_toArray, List.set_cons_zero, List.set_cons_succ]
          refine takeD (i := 13) (v := ?v25) (some 70) rfl (by kernel_rfl) (by kernel_rfl) (by kernel_rfl) (fun _ _ _ h => h) (Or.inl ⟨by rfl, ?hy25⟩) (by assumption) (by rfl) ?rest25
          case hy25 => first | (intro w hSw; (try dsimp only at hSw); obtain ⟨q0, q1, q2, q3, q4, q5, q6⟩ := hSw; go_simp; done) | (intro w hSw; (try dsimp only at hSw); obtain ⟨q0, q1, q2, q3, q4, q5, q6⟩ := hSw; go_simp; with_reducible rfl)
          try simp only [Act.put, List.setIfInBounds_toArray, List.set_cons_zero, List.set_cons_succ]
          refine takeD (i := 14) (v := ?v26) (some 71) rfl (by kernel_rfl) (by kernel_rfl) (by kernel_rfl) (fun _ _ _ h => h) (Or.inl ⟨by rfl, ?hy26⟩) (by assumption) (by rfl) ?rest26
          case hy26 => first | (intro w hSw; (try dsimp only at hSw); obtain ⟨q0, q1, q2, q3, q4, q5, q6⟩ := hSw; go_simp; done) | (intro w hSw; (try dsimp only at hSw); obtain ⟨q0, q1, q2, q3, q4, q5, q6⟩ := hSw; go_simp; with_reducible rfl)
          try simp only [Act.put, List.setIfInBounds_toArray, List.set_cons_zero, List.set_cons_succ]
          refine takeD (i := 15) (v := ?v27) (some 72) rfl (by kernel_rfl) (by kernel_rfl) (by kernel_rfl) (fun _ _ _ h => h) (Or.inl ⟨by rfl, ?hy27⟩) (by assumption) (by rfl) ?rest27
          case hy27 => first | (intro w hSw; (try dsimp only at hSw); obtain ⟨q0, q1, q2, q3, q4, q5, q6⟩ := hSw; go_simp; done) | (intro w hSw; (try dsimp only at hSw); obtain ⟨q0, q1, q2, q3, q4, q5, q6⟩ := hSw; go_simp; with_reducible rfl)
          try simp only [Act.put, List.setIfInBounds_toArray, List.set_cons_zero, List.set_cons_succ]
          refine takeD (i := 16) (v := ?v28) (some 73) rfl (by kernel_rfl) (by kernel_rfl) (by kernel_rfl) (fun _ _ _ h => h) (Or.inl ⟨by rfl, ?hy28⟩) (by assumption) (by rfl) ?rest28
          case hy28 => first | (intro w hSw; (try dsimp only at hSw); obtain ⟨q0, q1, q2, q3, q4, q5, q6⟩ := hSw; go_simp; done) | (intro w hSw; (try dsimp only at hSw); obtain ⟨q0, q1, q2, q3, q4, q5, q6⟩ := hSw; go_simp; with_reducible rfl)
          try simp only [Act.put, List.setIfInBounds_toArray, List.set_cons_zero, List.set_cons_succ]
          refine takeD (i := 17) (v := ?v29) (some 74) rfl (by kernel_rfl) (by kernel_rfl) (by kernel_rfl) (fun _ _ _ h => h) (Or.inl ⟨by rfl, ?hy29⟩) (by assumption) (by rfl) ?rest29
          case hy29 => first | (intro w hSw; (try dsimp only at hSw); obtain ⟨q0, q1, q2, q3, q4, q5, q6⟩ := hSw; go_simp; done) | (intro w hSw; (try dsimp only at hSw); obtain ⟨q0, q1, q2, q3, q4, q5, q6⟩ := hSw; go_simp; with_reducible rfl)
          try simp only [Act.put, List.setIfInBounds_toArray, List.set_cons_zero, List.set_cons_succ]
          refine takeD (i := 18) (v := ?v30) (some 75) rfl (by kernel_rfl) (by kernel_rfl) (by kernel_rfl) (fun _ _ _ h => h) (Or.inl ⟨by rfl, ?hy30⟩) (by assumption) (by rfl) ?rest30
          case hy30 => first | (intro w hSw; (try dsimp only at hSw); obtain ⟨q0, q1, q2, q3, q4, q5, q6⟩ := hSw; go_simp; done) | (intro w hSw; (try dsimp only at hSw); obtain ⟨q0, q1, q2, q3, q4, q5, q6⟩ := hSw; go_simp; with_reducible rfl)
          try simp only [Act.put, List.setIfInBounds_toArray, List.set_cons_zero, List.set_cons_succ]
          refine takeD (i := 19) (v := ?v31) (some 76) rfl (by kernel_rfl) (by kernel_rfl) (by kernel_rfl) (fun _ _ _ h => h) (Or.inl ⟨by rfl, ?hy31⟩) (by assumption) (by rfl) ?rest31
          case hy31 => first | (intro w hSw; (try dsimp only at hSw); obtain ⟨q0, q1, q2, q3, q4, q5, q6⟩ := hSw; go_simp; done) | (intro w hSw; (try dsimp only at hSw); obtain ⟨q0, q1, q2, q3, q4, q5, q6⟩ := hSw; go_simp; with_reducible rfl)
          try simp only [Act.put, List.setIfInBounds_toArray, List.set_cons_zero, List.set_cons_succ]
          refine wpAnyH_ready (rs := [20]) (by kernel_rfl) (by simp) ?_
          refine AllReadyH.cons rfl (fun K hK => ?_) AllReadyH.nil
          go_simp
          refine (HSAME.out _ (by (first | exact (Below.refl _ _).drew | exact Below.refl _ _))).mono ?_
          rintro e w14 ⟨rfl, hb14⟩
          have HB14 : Hid (Below W.heap.size W w14) := bafter (by (first | exact (Below.refl _ _).drew | exact Below.refl _ _)) hb14 (Nat.le_refl _)
          clear hb14 hHeld
          go_wp2_with fail
          refine hK.out _ _ (HS.out _ HB14.out) (fun hHeld => ?_)
          clear hK K
          try simp only [Act.put, List.setIfInBounds_toArray, List.set_cons_zero, List.set_cons_succ]
          refine takeD (i := 21) (v := ?v32) (some 78) rfl (by kernel_rfl) (by kernel_rfl) (by kernel_rfl) (fun _ _ _ h => h) (Or.inl ⟨by rfl, ?hy32⟩) (by assumption) (by rfl) ?rest32
          case hy32 => first | (intro w hSw; (try dsimp only at hSw); obtain ⟨q0, q1, q2, q3, q4, q5, q6⟩ := hSw; go_simp; done) | (intro w hSw; (try dsimp only at hSw); obtain ⟨q0, q1, q2, q3, q4, q5, q6⟩ := hSw; go_simp; with_reducible rfl)
          try simp only [Act.put, List.setIfInBounds_toArray, List.set_cons_zero, List.set_cons_succ]
          refine takeD (i := 22) (v := ?v33) (some 79) rfl (by kernel_rfl) (by kernel_rfl) (by kernel_rfl) (fun _ _ _ h => h) (Or.inl ⟨by rfl, ?hy33⟩) (by assumption) (by rfl) ?rest33
          case hy33 => first | (intro w hSw; (try dsimp only at hSw); obtain ⟨q0, q1, q2, q3, q4, q5, q6⟩ := hSw; go_simp; done) | (intro w hSw; (try dsimp only at hSw); obtain ⟨q0, q1, q2, q3, q4, q5, q6⟩ := hSw; go_simp; with_reducible rfl)
          try simp only [Act.put, List.setIfInBounds_toArray, List.set_cons_zero, List.set_cons_succ]
          clear hHeld
          refine wpAnyH_done (by kernel_rfl) ?_ _
          (try simp only [Exit.then])
          have n1 := (HJN.out.keep HB14.out).c0
          have n2 := (HJN.out.keep HB14.out).f0 0
          clear s0 n0 d1' d1n d2 d3
          gi_wp2
          have hbe := (bafter HBW.out HB14.out (Nat.le_refl _)).setCell (p := ⟨w12.heap.size, 0, none⟩) (Nat.le_refl _) (.int .i64 ((i : Int) + 1))
          refine ⟨(keepsFrom_of HB14.out).trans ((KeepsOthers.setCell _ _ _).from _), ⟨⟨?_, ⟨(F1.out.keep hbe).c0, F2.out.below hbe⟩⟩, hbe.size⟩, hbe⟩
          · have h9 := (HJN.out.keep HB14.out).put (.int .i64 ((i : Int) + 1))
            simpa using h9
      case done =>
        rintro D W hD ⟨jn, jk⟩ _ hbw hK
        have n1 := jn.c0
        have n2 := jn.f0 0
        have HT9 := hide (jn.put (.int .i64 0))
        have HBW := hide (hbw.setCell (p := ⟨w12.heap.size, 0, none⟩) (Nat.le_refl _) (.int .i64 0))
        have HKD := hide ((KeepsOthers.setCell W ⟨w12.heap.size, 0, none⟩ (.int .i64 0)).same D _ hK rfl)
        have HD := hide hD
        clear jn jk hbw hK hD
        go_wp2_with fail
        clear n1 n2
        generalize hW5 : W.setCell ⟨w12.heap.size, 0, none⟩ (.int .i64 0) = W5 at *
        clear hW5
        refine (wpIn_wide (n := 3)).1 ?_
        refine range_knownE (gf := 74) (lb := #[.pointer (some ⟨B0, 0, none⟩)]) ?hg2 (enters_of Tryz.func74 (by kernel_rfl) rfl)
          (vars_hands B0 (.slice a9 l9 k9) M9 F3.out.sl (by have := HLL.out; have := HLM.out; omega)) (fun _ => rfl)
          (fun i W => Uno W w12.heap.size (.int .i64 (i : Int)) 3 ∧ VarsKnow B0 (.slice a9 l9 k9) M9 W)
          (fun _ _ _ => False) (fun i W W' hj hc => ⟨hc.uno hj.1, hj.2.cel hc⟩) (fun _ _ _ _ h _ => h.elim) (fun _ W => W.heap[D]? = some (.deferred (some []))) (fun _ => kept_block (Array.getElem?_eq_some_iff.1 HKD.out).1) (fun _ W W' h hb => (hb.block D (Array.getElem?_eq_some_iff.1 h).1).trans h) w12.heap.size w12 (Nat.le_refl _) HBW.out.size
          (fun i W hj => hj.2) ⟨⟨⟨HT9.out, ⟨(F1.out.keep HBW.out).c0, F2.out.below HBW.out⟩⟩, HKD.out⟩, HBW.out⟩
          (fun i => .cells #[.bool (atP M9 i).2.1, (atP M9 i).2.2.1] 24) (fun _ => rfl) ?a2 ?assign2 ?body2 ?done2 ?stop2
        case hg2 => rfl
        case assign2 =>
          intro l i B W K hi hB hK
          obtain ⟨ma, mL, mc, hsl⟩ := F3.out.sl (atP M9 i) (by rw [atP_of (List.getElem?_eq_getElem hi)]; exact List.getElem_mem hi)
          unfold varV
          rw [hsl]
          have HSL := hide hsl
          have HBE := hide hB
          generalize hA1 : (atP M9 i).1 = vr at *
          generalize hA2 : (atP M9 i).2.1 = nb at *
          have HA1 := hide hA1
          have HA2 := hide hA2
          clear hsl hB hA1 hA2
          gi_wp2
          have hsl := HSL.out
          have hB := HBE.out
          have hA1 := HA1.out
          have hA2 := HA2.out
          rw [hB]
          subst hA1
          subst hA2
          rw [← hsl]
          exact hK
        case body2 =>
          rintro l i B W hi ⟨jn, jk⟩ jX hbw hB hBlt
          obtain ⟨⟨vr, nb, mv, cz⟩, hm⟩ : ∃ m, M9[i]? = some m := ⟨_, List.getElem?_eq_getElem hi⟩
          obtain ⟨ma, mL, mc, e⟩ := F3.out.sl _ (List.mem_of_getElem? hm)
          simp only at e
          subst e
          try dsimp only
          rw [atP_of hm] at hB ⊢
          have hiL : i < Ln := by have := HLM.out; omega
          obtain ⟨⟨vr2, pn, pv, cz2⟩, hm2⟩ : ∃ m, M8[i]? = some m := ⟨_, List.getElem?_eq_getElem (by rw [HLN.out]; exact hiL)⟩
          obtain ⟨qa, qL, qc, e⟩ := F8.out.sl _ (List.mem_of_getElem? hm2)
          simp only at e
          subst e
          have hpe : vr2 = vr ∧ cz2 = cz := by
            have h1 := congrArg (fun l => l[i]?) HPS.out
            simp only [ps, List.getElem?_map, hm, hm2, Option.map_some, pt, Option.some.injEq, Prod.mk.injEq] at h1
            exact ⟨h1.1.symm, h1.2.symm⟩
          obtain ⟨hpe1, hpe2⟩ := hpe
          subst hpe1 hpe2
          obtain ⟨pb, po, hxp, hc⟩ : ∃ pb po, xp = some ⟨pb, po, none⟩ ∧ CellsP w12 pb (po + i * 3) (vr2, pn, .slice qa qL qc, cz2) := by
            obtain ⟨_, _, e, _, _, h3⟩ := F7.out
            simp only [Value.slice.injEq] at e
            obtain ⟨e1, _, _⟩ := e
            obtain ⟨pb, po, e2, hc⟩ := h3 i _ hm2
            exact ⟨pb, po, by rw [e1, e2], hc⟩
          subst hxp
          have HC := hide hc
          have hB' : Two W B (.bool nb) (.slice ma mL mc) 24 := hB
          have hcb : cz2.natAbs < 10 ^ K9 := HBN.out (vr2, cz2) (List.mem_map.2 ⟨_, List.mem_of_getElem? hm, rfl⟩)
          have HSAME := hide (fun (Y : World) (hY : Below W.heap.size W Y) => gsame_true (K := K9) (((F3.out.below hbw) _ (List.mem_of_getElem? hm)).2.below hY) ((((F8.out.below hbw) _ (List.mem_of_getElem? hm2)).2.below hY).arg hcb) (by omega))
          have d1' : decide ((Ln : Int) ≤ (i : Int)) = false := decide_eq_false (by omega)
          have d1n : decide (Ln ≤ i) = false := decide_eq_false (by omega)
          have d2 : (i : Int) < (Ln : Int) := by omega
          have d0 : (0 : Int) ≤ (i : Int) := by omega
          have d3 : (vr2 != vr2) = false := by simp
          have HJN := hide jn
          have HJX := hide jX
          have HJK := hide jk
          have HBB := hide hB'
          have HBW := hide hbw
          have HS : Hid (∀ Y : World, Below W.heap.size W Y → Y.cell? ⟨w12.heap.size, 0, none⟩ = some (.int .i64 (i : Int)) ∧ Y.cell? ⟨w10.heap.size, 0, none⟩ = some (.slice (some ⟨pb, po, none⟩) Ln xk) ∧ Y.cell? ⟨pb, po + i * 3, none⟩ = some (.int .i64 vr2) ∧ Y.cell? ⟨pb, po + i * 3 + 1, none⟩ = some (.bool pn) ∧ Y.cell? ⟨pb, po + i * 3 + 2, none⟩ = some (.slice qa qL qc) ∧ Y.cell? ⟨B, 0, none⟩ = some (.bool nb) ∧ Y.cell? ⟨B, 1, none⟩ = some (.slice ma mL mc)) := fun Y hY => by
            obtain ⟨h1, h2, h3⟩ := (HC.out.below HBW.out).below hY
            exact ⟨(HJN.out.keep hY).c0, ((F6.out.keep HBW.out).keep hY).c0, h1, h2, h3, (HBB.out.keep hY).c0, (HBB.out.keep hY).c1⟩
          have s0 := (F4.out.keep hbw).c0
          have n0 := jn.c0
          have wn : IntKind.i64.wrap ((i : Int) + 1) = (i : Int) + 1 := wrapN (by omega) (by have := HLL.out; omega)
          clear jn jk jX hbw hB hB' hBlt hm hm2 hc hcb
          gi_wp2
          refine round_any 1 l (by kernel_rfl) (no_defer (by simp)) (by rintro ⟨_, _, h⟩; exact h) (wpAny_of_held (S := fun Y : World => Y.cell? ⟨w12.heap.size, 0, none⟩ = some (.int .i64 (i : Int)) ∧ Y.cell? ⟨w10.heap.size, 0, none⟩ = some (.slice (some ⟨pb, po, none⟩) Ln xk) ∧ Y.cell? ⟨pb, po + i * 3, none⟩ = some (.int .i64 vr2) ∧ Y.cell? ⟨pb, po + i * 3 + 1, none⟩ = some (.bool pn) ∧ Y.cell? ⟨pb, po + i * 3 + 2, none⟩ = some (.slice qa qL qc) ∧ Y.cell? ⟨B, 0, none⟩ = some (.bool nb) ∧ Y.cell? ⟨B, 1, none⟩ = some (.slice ma mL mc)) _ _ _ _ ?_)
          have hHeld : (fun Y : World => Y.cell? ⟨w12.heap.size, 0, none⟩ = some (.int .i64 (i : Int)) ∧ Y.cell? ⟨w10.heap.size, 0, none⟩ = some (.slice (some ⟨pb, po, none⟩) Ln xk) ∧ Y.cell? ⟨pb, po + i * 3, none⟩ = some (.int .i64 vr2) ∧ Y.cell? ⟨pb, po + i * 3 + 1, none⟩ = some (.bool pn) ∧ Y.cell? ⟨pb, po + i * 3 + 2, none⟩ = some (.slice qa qL qc) ∧ Y.cell? ⟨B, 0, none⟩ = some (.bool nb) ∧ Y.cell? ⟨B, 1, none⟩ = some (.slice ma mL mc)) W.drew := HS.out _ ((Below.refl _ _).drew)
          refine takeD (i := 0) (v := ?v34) (some 85) rfl (by kernel_rfl) (by kernel_rfl) (by kernel_rfl) (fun _ _ _ h => h) (Or.inl ⟨by rfl, ?hy34⟩) (by assumption) (by rfl) ?rest34
          case hy34 => first | (intro w hSw; (try dsimp only at hSw); obtain ⟨q0, q1, q2, q3, q4, q5, q6⟩ := hSw; go_simp; done) | (intro w hSw; (try dsimp only at hSw); obtain ⟨q0, q1, q2, q3, q4, q5, q6⟩ := hSw; go_simp; with_reducible rfl)
          try simp only [Act.put, List.setIfInBounds_toArray, List.set_cons_zero, List.set_cons_succ]
          refine takeD (i := 1) (v := ?v35) (some 86) rfl (by kernel_rfl) (by kernel_rfl) (by kernel_rfl) (fun _ _ _ h => h) (Or.inl ⟨by rfl, ?hy35⟩) (by assumption) (by rfl) ?rest35
          case hy35 => first | (intro w hSw; (try dsimp only at hSw); obtain ⟨q0, q1, q2, q3, q4, q5, q6⟩ := hSw; go_simp; done) | (intro w hSw; (try dsimp only at hSw); obtain ⟨q0, q1, q2, q3, q4, q5, q6⟩ := hSw; go_simp; with_reducible rfl)
          try simp only [Act.put, List.setIfInBounds_toArray, List.set_cons_zero, List.set_cons_succ]
          refine takeD (i := 2) (v := ?v36) (some 87) rfl (by kernel_rfl) (by kernel_rfl) (by kernel_rfl) (fun _ _ _ h => h) (Or.inl ⟨by rfl, ?hy36⟩) (by assumption) (by rfl) ?rest36
          case hy36 => first | (intro w hSw; (try dsimp only at hSw); obtain ⟨q0, q1, q2, q3, q4, q5, q6⟩ := hSw; go_simp; done) | (intro w hSw; (try dsimp only at hSw); obtain ⟨q0, q1, q2, q3, q4, q5, q6⟩ := hSw; go_simp; with_reducible rfl)
          try simp only [Act.put, List.setIfInBounds_toArray, List.set_cons_zero, List.set_cons_succ]
          refine takeD (i := 3) (v := ?v37) (some 88) rfl (by kernel_rfl) (by kernel_rfl) (by kernel_rfl) (fun _ _ _ h => h) (Or.inl ⟨by rfl, ?hy37⟩) (by assumption) (by rfl) ?rest37
          case hy37 => first | (intro w hSw; (try dsimp only at hSw); obtain ⟨q0, q1, q2, q3, q4, q5, q6⟩ := hSw; go_simp; done) | (intro w hSw; (try dsimp only at hSw); obtain ⟨q0, q1, q2, q3, q4, q5, q6⟩ := hSw; go_simp; with_reducible rfl)
          try simp only [Act.put, List.setIfInBounds_toArray, List.set_cons_zero, List.set_cons_succ]
          refine takeD (i := 4) (v := ?v38) (some 89) rfl (by kernel_rfl) (by kernel_rfl) (by kernel_rfl) (fun _ _ _ h => h) (Or.inl ⟨by rfl, ?hy38⟩) (by assumption) (by rfl) ?rest38
          case hy38 => first | (intro w hSw; (try dsimp only at hSw); obtain ⟨q0, q1, q2, q3, q4, q5, q6⟩ := hSw; go_simp; done) | (intro w hSw; (try dsimp only at hSw); obtain ⟨q0, q1, q2, q3, q4, q5, q6⟩ := hSw; go_simp; with_reducible rfl)
          try simp only [Act.put, List.setIfInBounds_toArray, List.set_cons_zero, List.set_cons_succ]
          refine takeD (i := 5) (v := ?v39) (some 90) rfl (by kernel_rfl) (by kernel_rfl) (by kernel_rfl) (fun _ _ _ h => h) (Or.inl ⟨by rfl, ?hy39⟩) (by assumption) (by rfl) ?rest39
          case hy39 => first | (intro w hSw; (try dsimp only at hSw); obtain ⟨q0, q1, q2, q3, q4, q5, q6⟩ := hSw; go_simp; done) | (intro w hSw; (try dsimp only at hSw); obtain ⟨q0, q1, q2, q3, q4, q5, q6⟩ := hSw; go_simp; with_reducible rfl)
          try simp only [Act.put, List.setIfInBounds_toArray, List.set_cons_zero, List.set_cons_succ]
          refine takeD (i := 6) (v := ?v40) (some 91) rfl (by kernel_rfl) (by kernel_rfl) (by kernel_rfl) (fun _ _ _ h => h) (Or.inl ⟨by rfl, ?hy40⟩) (by assumption) (by rfl) ?rest40
          case hy40 => first | (intro w hSw; (try dsimp only at hSw); obtain ⟨q0, q1, q2, q3, q4, q5, q6⟩ := hSw; go_simp; done) | (intro w hSw; (try dsimp only at hSw); obtain ⟨q0, q1, q2, q3, q4, q5, q6⟩ := hSw; go_simp; with_reducible rfl)
          try simp only [Act.put, List.setIfInBounds_toArray, List.set_cons_zero, List.set_cons_succ]
          refine takeD (i := 7) (v := ?v41) (some 92) rfl (by kernel_rfl) (by kernel_rfl) (by kernel_rfl) (fun _ _ _ h => h) (Or.inl ⟨by rfl, ?hy41⟩) (by assumption) (by rfl) ?rest41
          case hy41 => first | (intro w hSw; (try dsimp only at hSw); obtain ⟨q0, q1, q2, q3, q4, q5, q6⟩ := hSw; go_simp; done) | (intro w hSw; (try dsimp only at hSw); obtain ⟨q0, q1, q2, q3, q4, q5, q6⟩ := hSw; go_simp; with_reducible rfl)
          try simp only [Act.put, List.setIfInBounds_toArray, List.set_cons_zero, List.set_cons_succ]
          refine takeD (i := 8) (v := ?v42) (some 93) rfl (by kernel_rfl) (by kernel_rfl) (by kernel_rfl) (fun _ _ _ h => h) (Or.inl ⟨by rfl, ?hy42⟩) (by assumption) (by rfl) ?rest42
          case hy42 => first | (intro w hSw; (try dsimp only at hSw); obtain ⟨q0, q1, q2, q3, q4, q5, q6⟩ := hSw; go_simp; done) | (intro w hSw; (try dsimp only at hSw); obtain ⟨q0, q1, q2, q3, q4, q5, q6⟩ := hSw; go_simp; with_reducible rfl)
          try simp only [Act.put, List.setIfInBounds_toArray, List.set_cons_zero, List.set_cons_succ]
          refine takeD (i := 9) (v := ?v43) (some 94) rfl (by kernel_rfl) (by kernel_rfl) (by kernel_rfl) (fun _ _ _ h => h) (Or.inl ⟨by rfl, ?hy43⟩) (by assumption) (by rfl) ?rest43
          case hy43 => first | (intro w hSw; (try dsimp only at hSw); obtain ⟨q0, q1, q2, q3, q4, q5, q6⟩ := hSw; go_simp; done) | (intro w hSw; (try dsimp only at hSw); obtain ⟨q0, q1, q2, q3, q4, q5, q6⟩ := hSw; go_simp; with_reducible rfl)
          try simp only [Act.put, List.setIfInBounds_toArray, List.set_cons_zero, List.set_cons_succ]
          refine takeD (i := 10) (v := ?v44) (some 95) rfl (by kernel_rfl) (by kernel_rfl) (by kernel_rfl) (fun _ _ _ h => h) (Or.inl ⟨by rfl, ?hy44⟩) (by assumption) (by rfl) ?rest44
          case hy44 => first | (intro w hSw; (try dsimp only at hSw); obtain ⟨q0, q1, q2, q3, q4, q5, q6⟩ := hSw; go_simp; done) | (intro w hSw; (try dsimp only at hSw); obtain ⟨q0, q1, q2, q3, q4, q5, q6⟩ := hSw; go_simp; with_reducible rfl)
          try simp only [Act.put, List.setIfInBounds_toArray, List.set_cons_zero, List.set_cons_succ]
          refine takeD (i := 11) (v := ?v45) (some 96) rfl (by kernel_rfl) (by kernel_rfl) (by kernel_rfl) (fun _ _ _ h => h) (Or.inl ⟨by rfl, ?hy45⟩) (by assumption) (by rfl) ?rest45
          case hy45 => first | (intro w hSw; (try dsimp only at hSw); obtain ⟨q0, q1, q2, q3, q4, q5, q6⟩ := hSw; go_simp; done) | (intro w hSw; (try dsimp only at hSw); obtain ⟨q0, q1, q2, q3, q4, q5, q6⟩ := hSw; go_simp; with_reducible rfl)
          try simp only [Act.put, List.setIfInBounds_toArray, List.set_cons_zero, List.set_cons_succ]
          refine takeD (i := 12) (v := ?v46) (some 97) rfl (by kernel_rfl) (by kernel_rfl) (by kernel_rfl) (fun _ _ _ h => h) (Or.inl ⟨by rfl, ?hy46⟩) (by assumption) (by rfl) ?rest46
          case hy46 => first | (intro w hSw; (try dsimp only at hSw); obtain ⟨q0, q1, q2, q3, q4, q5, q6⟩ := hSw; go_simp; done) | (intro w hSw; (try dsimp only at hSw); obtain ⟨q0, q1, q2, q3, q4, q5, q6⟩ := hSw; go_simp; with_reducible rfl)
          try simp only [Act.put, List.setIfInBounds_toArray, List.set_cons_zero, List.set_cons_succ]
          refine takeD (i := 13) (v := ?v47) (some 98) rfl (by kernel_rfl) (by kernel_rfl) (by kernel_rfl) (fun _ _ _ h => h) (Or.inl ⟨by rfl, ?hy47⟩) (by assumption) (by rfl) ?rest47
          case hy47 => first | (intro w hSw; (try dsimp only at hSw); obtain ⟨q0, q1, q2, q3, q4, q5, q6⟩ := hSw; go_simp; done) | (intro w hSw; (try dsimp only at hSw); obtain ⟨q0, q1, q2, q3, q4, q5, q6⟩ := hSw; go_simp; with_reducible rfl)
          try simp only [Act.put, List.setIfInBounds_toArray, List.set_cons_zero, List.set_cons_succ]
          refine takeD (i := 14) (v := ?v48) (some 99) rfl (by kernel_rfl) (by kernel_rfl) (by kernel_rfl) (fun _ _ _ h => h) (Or.inl ⟨by rfl, ?hy48⟩) (by assumption) (by rfl) ?rest48
          case hy48 => first | (intro w hSw; (try dsimp only at hSw); obtain ⟨q0, q1, q2, q3, q4, q5, q6⟩ := hSw; go_simp; done) | (intro w hSw; (try dsimp only at hSw); obtain ⟨q0, q1, q2, q3, q4, q5, q6⟩ := hSw; go_simp; with_reducible rfl)
          try simp only [Act.put, List.setIfInBounds_toArray, List.set_cons_zero, List.set_cons_succ]
          refine takeD (i := 15) (v := ?v49) (some 100) rfl (by kernel_rfl) (by kernel_rfl) (by kernel_rfl) (fun _ _ _ h => h) (Or.inl ⟨by rfl, ?hy49⟩) (by assumption) (by rfl) ?rest49
          case hy49 => first | (intro w hSw; (try dsimp only at hSw); obtain ⟨q0, q1, q2, q3, q4, q5, q6⟩ := hSw; go_simp; done) | (intro w hSw; (try dsimp only at hSw); obtain ⟨q0, q1, q2, q3, q4, q5, q6⟩ := hSw; go_simp; with_reducible rfl)
          try simp only [Act.put, List.setIfInBounds_toArray, List.set_cons_zero, List.set_cons_succ]
          refine takeD (i := 16) (v := ?v50) (some 101) rfl (by kernel_rfl) (by kernel_rfl) (by kernel_rfl) (fun _ _ _ h => h) (Or.inl ⟨by rfl, ?hy50⟩) (by assumption) (by rfl) ?rest50
          case hy50 => first | (intro w hSw; (try dsimp only at hSw); obtain ⟨q0, q1, q2, q3, q4, q5, q6⟩ := hSw; go_simp; done) | (intro w hSw; (try dsimp only at hSw); obtain ⟨q0, q1, q2, q3, q4, q5, q6⟩ := hSw; go_simp; with_reducible rfl)
          try simp only [Act.put, List.setIfInBounds_toArray, List.set_cons_zero, List.set_cons_succ]
          refine takeD (i := 17) (v := ?v51) (some 102) rfl (by kernel_rfl) (by kernel_rfl) (by kernel_rfl) (fun _ _ _ h => h) (Or.inl ⟨by rfl, ?hy51⟩) (by assumption) (by rfl) ?rest51
          case hy51 => first | (intro w hSw; (try dsimp only at hSw); obtain ⟨q0, q1, q2, q3, q4, q5, q6⟩ := hSw; go_simp; done) | (intro w hSw; (try dsimp only at hSw); obtain ⟨q0, q1, q2, q3, q4, q5, q6⟩ := hSw; go_simp; with_reducible rfl)
          try simp only [Act.put, List.setIfInBounds_toArray, List.set_cons_zero, List.set_cons_succ]
          refine takeD (i := 18) (v := ?v52) (some 103) rfl (by kernel_rfl) (by kernel_rfl) (by kernel_rfl) (fun _ _ _ h => h) (Or.inl ⟨by rfl, ?hy52⟩) (by assumption) (by rfl) ?rest52
          case hy52 => first | (intro w hSw; (try dsimp only at hSw); obtain ⟨q0, q1, q2, q3, q4, q5, q6⟩ := hSw; go_simp; done) | (intro w hSw; (try dsimp only at hSw); obtain ⟨q0, q1, q2, q3, q4, q5, q6⟩ := hSw; go_simp; with_reducible rfl)
          try simp only [Act.put, List.setIfInBounds_toArray, List.set_cons_zero, List.set_cons_succ]
          refine takeD (i := 19) (v := ?v53) (some 104) rfl (by kernel_rfl) (by kernel_rfl) (by kernel_rfl) (fun _ _ _ h => h) (Or.inl ⟨by rfl, ?hy53⟩) (by assumption) (by rfl) ?rest53
          case hy53 => first | (intro w hSw; (try dsimp only at hSw); obtain ⟨q0, q1, q2, q3, q4, q5, q6⟩ := hSw; go_simp; done) | (intro w hSw; (try dsimp only at hSw); obtain ⟨q0, q1, q2, q3, q4, q5, q6⟩ := hSw; go_simp; with_reducible rfl)
          try simp only [Act.put, List.setIfInBounds_toArray, List.set_cons_zero, List.set_cons_succ]
          refine wpAnyH_ready (rs := [20]) (by kernel_rfl) (by simp) ?_
          refine AllReadyH.cons rfl (fun K hK => ?_) AllReadyH.nil
          go_simp
          refine (HSAME.out _ (by (first | exact (Below.refl _ _).drew | exact Below.refl _ _))).mono ?_
          rintro e w14 ⟨rfl, hb14⟩
          have HB14 : Hid (Below W.heap.size W w14) := bafter (by (first | exact (Below.refl _ _).drew | exact Below.refl _ _)) hb14 (Nat.le_refl _)
          clear hb14 hHeld
          go_wp2_with fail
          refine hK.out _ _ (HS.out _ HB14.out) (fun hHeld => ?_)
          clear hK K
          try simp only [Act.put, List.setIfInBounds_toArray, List.set_cons_zero, List.set_cons_succ]
          refine takeD (i := 21) (v := ?v54) (some 106) rfl (by kernel_rfl) (by kernel_rfl) (by kernel_rfl) (fun _ _ _ h => h) (Or.inl ⟨by rfl, ?hy54⟩) (by assumption) (by rfl) ?rest54
          case hy54 => first | (intro w hSw; (try dsimp only at hSw); obtain ⟨q0, q1, q2, q3, q4, q5, q6⟩ := hSw; go_simp; done) | (intro w hSw; (try dsimp only at hSw); obtain ⟨q0, q1, q2, q3, q4, q5, q6⟩ := hSw; go_simp; with_reducible rfl)
          try simp only [Act.put, List.setIfInBounds_toArray, List.set_cons_zero, List.set_cons_succ]
          refine takeD (i := 22) (v := ?v55) (some 107) rfl (by kernel_rfl) (by kernel_rfl) (by kernel_rfl) (fun _ _ _ h => h) (Or.inl ⟨by rfl, ?hy55⟩) (by assumption) (by rfl) ?rest55
          case hy55 => first | (intro w hSw; (try dsimp only at hSw); obtain ⟨q0, q1, q2, q3, q4, q5, q6⟩ := hSw; go_simp; done) | (intro w hSw; (try dsimp only at hSw); obtain ⟨q0, q1, q2, q3, q4, q5, q6⟩ := hSw; go_simp; with_reducible rfl)
          try simp only [Act.put, List.setIfInBounds_toArray, List.set_cons_zero, List.set_cons_succ]
          clear hHeld
          refine wpAnyH_done (by kernel_rfl) ?_ _
          (try simp only [Exit.then])
          have n1 := (HJN.out.keep HB14.out).c0
          have n2 := (HJN.out.keep HB14.out).f0 0
          clear s0 n0 d1' d1n d2 d3
          gi_wp2
          have hbe := (bafter HBW.out HB14.out (Nat.le_refl _)).setCell (p := ⟨w12.heap.size, 0, none⟩) (Nat.le_refl _) (.int .i64 ((i : Int) + 1))
          refine ⟨(keepsFrom_of HB14.out).trans ((KeepsOthers.setCell _ _ _).from _), ⟨⟨?_, ⟨(F1.out.keep hbe).c0, F2.out.below hbe⟩⟩, ?_⟩, hbe⟩
          · have h9 := (HJN.out.keep HB14.out).put (.int .i64 ((i : Int) + 1))
            simpa using h9
          · exact (KeepsOthers.setCell w14 ⟨w12.heap.size, 0, none⟩ _).same D _ ((HB14.out.block D (Array.getElem?_eq_some_iff.1 HJX.out).1).trans HJX.out) rfl
        case done2 =>
          rintro D2 W6 hD2 ⟨jn, jk⟩ jD hbw hK2
          have hsm := summed_calls W6 (tab_keep HTAB.out (bafter HW12.out hbw (Nat.le_refl _)))
          have HJN := hide jn
          have HJD := hide jD
          have HBW6 := hide hbw
          have HK2 := hide hK2
          have HD2 := hide hD2
          clear jn jk jD hbw hK2 hD2
          go_wp2_with fail
          refine hsm.mono ?_
          rintro e W7 ⟨rfl, hb7⟩
          have HBC := hide (bafter HBW6.out hb7 (Nat.le_refl _))
          have HR7 := hide (F5.out.keep HBC.out)
          have r0 := HR7.out.c0
          have r1 := HR7.out.f0 0
          have p0 := (F6.out.keep HBC.out).c0
          have n1 := (HJN.out.keep hb7).c0
          have HB7 := hide (bafter HW12.out HBC.out (Nat.le_refl _))
          have HK7 := hide ((hb7.block D (Array.getElem?_eq_some_iff.1 HJD.out).1).trans HJD.out)
          have HK7' := hide ((hb7.block D2 (Array.getElem?_eq_some_iff.1 HK2.out).1).trans HK2.out)
          have hLL : M9.length = Ln := HLM.out
          rw [hLL] at n1
          have hee : ((Ln : Int) == (Ln : Int)) = true := by simp
          clear hsm hb7 hLL
          go_wp2
          have q1 := (KeepsOthers.setCell W7 ⟨w.heap.size + 1 + 1 + 1, 0, none⟩ (.bool true)).same D2 _ HK7'.out rfl
          have q0 := (KeepsOthers.setCell W7 ⟨w.heap.size + 1 + 1 + 1, 0, none⟩ (.bool true)).same D _ HK7.out rfl
          have hne : D ≠ D2 := by
            intro e
            have h1 := (Array.getElem?_eq_some_iff.1 HKD.out).1
            have h2 := HD2.out
            omega
          have q0' : ((W7.setCell ⟨w.heap.size + 1 + 1 + 1, 0, none⟩ (.bool true)).putObj D2 (.deferred none)).heap[D]? = some (.deferred (some [])) := (World.putObj_heap_other hne).trans q0
          refine ⟨by simp, .inl ⟨_, _, rfl, run_takeDeferred q1, ?_⟩⟩
          refine ⟨by simp, .inl ⟨_, _, rfl, run_takeDeferred q0', ?_⟩⟩
          have hc5 := ((cel_put (.deferred none) q0' rfl).uno ((cel_put (.deferred none) q1 rfl).uno (HR7.out.put (.bool true)))).c0
          refine ⟨.bool true, ?_, ⟨rfl, ((HB7.out.setCell (p := ⟨w.heap.size + 1 + 1 + 1, 0, none⟩) (by show _ ≤ w.heap.size + 1 + 1 + 1; omega) _).trans (belowK_b (w := w) (Nat.le_refl _) _ D2 _ _ (by have h1 := HD2.out; have h2 := HBW.out.size; have h3 := HW12.out.size; omega) q1 rfl rfl)).trans (belowK_b (w := w) (Nat.le_refl _) _ D _ _ (by have h1 := HD.out; have h3 := HW12.out.size; simp at h1; omega) q0' rfl rfl)⟩⟩
          simp [results, Tryz.f6, go_sem, hc5]
        case stop2 => exact fun D c k W hD hk h _ hb hK => h.elim
      case stop =>
        rintro D c2 i W hD hi ⟨rfl, jn, jk⟩ _ hbw hK
        have n1 := jn.c0
        have n2 := jn.f0 0
        have HT9 := hide (jn.put (.int .i64 0))
        have HBW := hide (hbw.setCell (p := ⟨w12.heap.size, 0, none⟩) (Nat.le_refl _) (.int .i64 0))
        have HKD := hide ((KeepsOthers.setCell W ⟨w12.heap.size, 0, none⟩ (.int .i64 0)).same D _ hK rfl)
        have HD := hide hD
        clear jn jk hbw hK hD
        gi_wp2_with fail
        try go_wp2_with fail
        clear n1 n2
        generalize hW5 : W.setCell ⟨w12.heap.size, 0, none⟩ (.int .i64 0) = W5 at *
        clear hW5
        refine (wpIn_wide (n := 3)).1 ?_
        refine range_knownE (gf := 74) (lb := #[.pointer (some ⟨B0, 0, none⟩)]) ?hg2 (enters_of Tryz.func74 (by kernel_rfl) rfl)
          (vars_hands B0 (.slice a9 l9 k9) M9 F3.out.sl (by have := HLL.out; have := HLM.out; omega)) (fun _ => rfl)
          (fun i W => Uno W w12.heap.size (.int .i64 (i : Int)) 3 ∧ VarsKnow B0 (.slice a9 l9 k9) M9 W)
          (fun _ _ _ => False) (fun i W W' hj hc => ⟨hc.uno hj.1, hj.2.cel hc⟩) (fun _ _ _ _ h _ => h.elim) (fun _ W => W.heap[D]? = some (.deferred (some []))) (fun _ => kept_block (Array.getElem?_eq_some_iff.1 HKD.out).1) (fun _ W W' h hb => (hb.block D (Array.getElem?_eq_some_iff.1 h).1).trans h) w12.heap.size w12 (Nat.le_refl _) HBW.out.size
          (fun i W hj => hj.2) ⟨⟨⟨HT9.out, ⟨(F1.out.keep HBW.out).c0, F2.out.below HBW.out⟩⟩, HKD.out⟩, HBW.out⟩
          (fun i => .cells #[.bool (atP M9 i).2.1, (atP M9 i).2.2.1] 24) (fun _ => rfl) ?a2 ?assign2 ?body2 ?done2 ?stop2
        case hg2 => rfl
        case assign2 =>
          intro l i B W K hi hB hK
          obtain ⟨ma, mL, mc, hsl⟩ := F3.out.sl (atP M9 i) (by rw [atP_of (List.getElem?_eq_getElem hi)]; exact List.getElem_mem hi)
          unfold varV
          rw [hsl]
          have HSL := hide hsl
          have HBE := hide hB
          generalize hA1 : (atP M9 i).1 = vr at *
          generalize hA2 : (atP M9 i).2.1 = nb at *
          have HA1 := hide hA1
          have HA2 := hide hA2
          clear hsl hB hA1 hA2
          gi_wp2
          have hsl := HSL.out
          have hB := HBE.out
          have hA1 := HA1.out
          have hA2 := HA2.out
          rw [hB]
          subst hA1
          subst hA2
          rw [← hsl]
          exact hK
        case body2 =>
          rintro l i B W hi ⟨jn, jk⟩ jX hbw hB hBlt
          obtain ⟨⟨vr, nb, mv, cz⟩, hm⟩ : ∃ m, M9[i]? = some m := ⟨_, List.getElem?_eq_getElem hi⟩
          obtain ⟨ma, mL, mc, e⟩ := F3.out.sl _ (List.mem_of_getElem? hm)
          simp only at e
          subst e
          try dsimp only
          rw [atP_of hm] at hB ⊢
          have hiL : i < Ln := by have := HLM.out; omega
          obtain ⟨⟨vr2, pn, pv, cz2⟩, hm2⟩ : ∃ m, M8[i]? = some m := ⟨_, List.getElem?_eq_getElem (by rw [HLN.out]; exact hiL)⟩
          obtain ⟨qa, qL, qc, e⟩ := F8.out.sl _ (List.mem_of_getElem? hm2)
          simp only at e
          subst e
          have hpe : vr2 = vr ∧ cz2 = cz := by
            have h1 := congrArg (fun l => l[i]?) HPS.out
            simp only [ps, List.getElem?_map, hm, hm2, Option.map_some, pt, Option.some.injEq, Prod.mk.injEq] at h1
            exact ⟨h1.1.symm, h1.2.symm⟩
          obtain ⟨hpe1, hpe2⟩ := hpe
          subst hpe1 hpe2
          obtain ⟨pb, po, hxp, hc⟩ : ∃ pb po, xp = some ⟨pb, po, none⟩ ∧ CellsP w12 pb (po + i * 3) (vr2, pn, .slice qa qL qc, cz2) := by
            obtain ⟨_, _, e, _, _, h3⟩ := F7.out
            simp only [Value.slice.injEq] at e
            obtain ⟨e1, _, _⟩ := e
            obtain ⟨pb, po, e2, hc⟩ := h3 i _ hm2
            exact ⟨pb, po, by rw [e1, e2], hc⟩
          subst hxp
          have HC := hide hc
          have hB' : Two W B (.bool nb) (.slice ma mL mc) 24 := hB
          have hcb : cz2.natAbs < 10 ^ K9 := HBN.out (vr2, cz2) (List.mem_map.2 ⟨_, List.mem_of_getElem? hm, rfl⟩)
          have HSAME := hide (fun (Y : World) (hY : Below W.heap.size W Y) => gsame_true (K := K9) (((F3.out.below hbw) _ (List.mem_of_getElem? hm)).2.below hY) ((((F8.out.below hbw) _ (List.mem_of_getElem? hm2)).2.below hY).arg hcb) (by omega))
          have d1' : decide ((Ln : Int) ≤ (i : Int)) = false := decide_eq_false (by omega)
          have d1n : decide (Ln ≤ i) = false := decide_eq_false (by omega)
          have d2 : (i : Int) < (Ln : Int) := by omega
          have d0 : (0 : Int) ≤ (i : Int) := by omega
          have d3 : (vr2 != vr2) = false := by simp
          have HJN := hide jn
          have HJX := hide jX
          have HJK := hide jk
          have HBB := hide hB'
          have HBW := hide hbw
          have HS : Hid (∀ Y : World, Below W.heap.size W Y → Y.cell? ⟨w12.heap.size, 0, none⟩ = some (.int .i64 (i : Int)) ∧ Y.cell? ⟨w10.heap.size, 0, none⟩ = some (.slice (some ⟨pb, po, none⟩) Ln xk) ∧ Y.cell? ⟨pb, po + i * 3, none⟩ = some (.int .i64 vr2) ∧ Y.cell? ⟨pb, po + i * 3 + 1, none⟩ = some (.bool pn) ∧ Y.cell? ⟨pb, po + i * 3 + 2, none⟩ = some (.slice qa qL qc) ∧ Y.cell? ⟨B, 0, none⟩ = some (.bool nb) ∧ Y.cell? ⟨B, 1, none⟩ = some (.slice ma mL mc)) := fun Y hY => by
            obtain ⟨h1, h2, h3⟩ := (HC.out.below HBW.out).below hY
            exact ⟨(HJN.out.keep hY).c0, ((F6.out.keep HBW.out).keep hY).c0, h1, h2, h3, (HBB.out.keep hY).c0, (HBB.out.keep hY).c1⟩
          have s0 := (F4.out.keep hbw).c0
          have n0 := jn.c0
          have wn : IntKind.i64.wrap ((i : Int) + 1) = (i : Int) + 1 := wrapN (by omega) (by have := HLL.out; omega)
          clear jn jk jX hbw hB hB' hBlt hm hm2 hc hcb
          gi_wp2
          refine round_any 1 l (by kernel_rfl) (no_defer (by simp)) (by rintro ⟨_, _, h⟩; exact h) (wpAny_of_held (S := fun Y : World => Y.cell? ⟨w12.heap.size, 0, none⟩ = some (.int .i64 (i : Int)) ∧ Y.cell? ⟨w10.heap.size, 0, none⟩ = some (.slice (some ⟨pb, po, none⟩) Ln xk) ∧ Y.cell? ⟨pb, po + i * 3, none⟩ = some (.int .i64 vr2) ∧ Y.cell? ⟨pb, po + i * 3 + 1, none⟩ = some (.bool pn) ∧ Y.cell? ⟨pb, po + i * 3 + 2, none⟩ = some (.slice qa qL qc) ∧ Y.cell? ⟨B, 0, none⟩ = some (.bool nb) ∧ Y.cell? ⟨B, 1, none⟩ = some (.slice ma mL mc)) _ _ _ _ ?_)
          have hHeld : (fun Y : World => Y.cell? ⟨w12.heap.size, 0, none⟩ = some (.int .i64 (i : Int)) ∧ Y.cell? ⟨w10.heap.size, 0, none⟩ = some (.slice (some ⟨pb, po, none⟩) Ln xk) ∧ Y.cell? ⟨pb, po + i * 3, none⟩ = some (.int .i64 vr2) ∧ Y.cell? ⟨pb, po + i * 3 + 1, none⟩ = some (.bool pn) ∧ Y.cell? ⟨pb, po + i * 3 + 2, none⟩ = some (.slice qa qL qc) ∧ Y.cell? ⟨B, 0, none⟩ = some (.bool nb) ∧ Y.cell? ⟨B, 1, none⟩ = some (.slice ma mL mc)) W.drew := HS.out _ ((Below.refl _ _).drew)
          refine takeD (i := 0) (v := ?v56) (some 85) rfl (by kernel_rfl) (by kernel_rfl) (by kernel_rfl) (fun _ _ _ h => h) (Or.inl ⟨by rfl, ?hy56⟩) (by assumption) (by rfl) ?rest56
          case hy56 => first | (intro w hSw; (try dsimp only at hSw); obtain ⟨q0, q1, q2, q3, q4, q5, q6⟩ := hSw; go_simp; done) | (intro w hSw; (try dsimp only at hSw); obtain ⟨q0, q1, q2, q3, q4, q5, q6⟩ := hSw; go_simp; with_reducible rfl)
          try simp only [Act.put, List.setIfInBounds_toArray, List.set_cons_zero, List.set_cons_succ]
          refine takeD (i := 1) (v := ?v57) (some 86) rfl (by kernel_rfl) (by kernel_rfl) (by kernel_rfl) (fun _ _ _ h => h) (Or.inl ⟨by rfl, ?hy57⟩) (by assumption) (by rfl) ?rest57
          case hy57 => first | (intro w hSw; (try dsimp only at hSw); obtain ⟨q0, q1, q2, q3, q4, q5, q6⟩ := hSw; go_simp; done) | (intro w hSw; (try dsimp only at hSw); obtain ⟨q0, q1, q2, q3, q4, q5, q6⟩ := hSw; go_simp; with_reducible rfl)
          try simp only [Act.put, List.setIfInBounds_toArray, List.set_cons_zero, List.set_cons_succ]
          refine takeD (i := 2) (v := ?v58) (some 87) rfl (by kernel_rfl) (by kernel_rfl) (by kernel_rfl) (fun _ _ _ h => h) (Or.inl ⟨by rfl, ?hy58⟩) (by assumption) (by rfl) ?rest58
          case hy58 => first | (intro w hSw; (try dsimp only at hSw); obtain ⟨q0, q1, q2, q3, q4, q5, q6⟩ := hSw; go_simp; done) | (intro w hSw; (try dsimp only at hSw); obtain ⟨q0, q1, q2, q3, q4, q5, q6⟩ := hSw; go_simp; with_reducible rfl)
          try simp only [Act.put, List.setIfInBounds_toArray, List.set_cons_zero, List.set_cons_succ]
          refine takeD (i := 3) (v := ?v59) (some 88) rfl (by kernel_rfl) (by kernel_rfl) (by kernel_rfl) (fun _ _ _ h => h) (Or.inl ⟨by rfl, ?hy59⟩) (by assumption) (by rfl) ?rest59
          case hy59 => first | (intro w hSw; (try dsimp only at hSw); obtain ⟨q0, q1, q2, q3, q4, q5, q6⟩ := hSw; go_simp; done) | (intro w hSw; (try dsimp only at hSw); obtain ⟨q0, q1, q2, q3, q4, q5, q6⟩ := hSw; go_simp; with_reducible rfl)
          try simp only [Act.put, List.setIfInBounds_toArray, List.set_cons_zero, List.set_cons_succ]
          refine takeD (i := 4) (v := ?v60) (some 89) rfl (by kernel_rfl) (by kernel_rfl) (by kernel_rfl) (fun _ _ _ h => h) (Or.inl ⟨by rfl, ?hy60⟩) (by assumption) (by rfl) ?rest60
          case hy60 => first | (intro w hSw; (try dsimp only at hSw); obtain ⟨q0, q1, q2, q3, q4, q5, q6⟩ := hSw; go_simp; done) | (intro w hSw; (try dsimp only at hSw); obtain ⟨q0, q1, q2, q3, q4, q5, q6⟩ := hSw; go_simp; with_reducible rfl)
          try simp only [Act.put, List.setIfInBounds_toArray, List.set_cons_zero, List.set_cons_succ]
          refine takeD (i := 5) (v := ?v61) (some 90) rfl (by kernel_rfl) (by kernel_rfl) (by kernel_rfl) (fun _ _ _ h => h) (Or.inl ⟨by rfl, ?hy61⟩) (by assumption) (by rfl) ?rest61
          case hy61 => first | (intro w hSw; (try dsimp only at hSw); obtain ⟨q0, q1, q2, q3, q4, q5, q6⟩ := hSw; go_simp; done) | (intro w hSw; (try dsimp only at hSw); obtain ⟨q0, q1, q2, q3, q4, q5, q6⟩ := hSw; go_simp; with_reducible rfl)
          try simp only [Act.put, List.setIfInBounds_toArray, List.set_cons_zero, List.set_cons_succ]
          refine takeD (i := 6) (v := ?v62) (some 91) rfl (by kernel_rfl) (by kernel_rfl) (by kernel_rfl) (fun _ _ _ h => h) (Or.inl ⟨by rfl, ?hy62⟩) (by assumption) (by rfl) ?rest62
          case hy62 => first | (intro w hSw; (try dsimp only at hSw); obtain ⟨q0, q1, q2, q3, q4, q5, q6⟩ := hSw; go_simp; done) | (intro w hSw; (try dsimp only at hSw); obtain ⟨q0, q1, q2, q3, q4, q5, q6⟩ := hSw; go_simp; with_reducible rfl)
          try simp only [Act.put, List.setIfInBounds_toArray, List.set_cons_zero, List.set_cons_succ]
          refine takeD (i := 7) (v := ?v63) (some 92) rfl (by kernel_rfl) (by kernel_rfl) (by kernel_rfl) (fun _ _ _ h => h) (Or.inl ⟨by rfl, ?hy63⟩) (by assumption) (by rfl) ?rest63
          case hy63 => first | (intro w hSw; (try dsimp only at hSw); obtain ⟨q0, q1, q2, q3, q4, q5, q6⟩ := hSw; go_simp; done) | (intro w hSw; (try dsimp only at hSw); obtain ⟨q0, q1, q2, q3, q4, q5, q6⟩ := hSw; go_simp; with_reducible rfl)
          try simp only [Act.put, List.setIfInBounds_toArray, List.set_cons_zero, List.set_cons_succ]
          refine takeD (i := 8) (v := ?v64) (some 93) rfl (by kernel_rfl) (by kernel_rfl) (by kernel_rfl) (fun _ _ _ h => h) (Or.inl ⟨by rfl, ?hy64⟩) (by assumption) (by rfl) ?rest64
          case hy64 => first | (intro w hSw; (try dsimp only at hSw); obtain ⟨q0, q1, q2, q3, q4, q5, q6⟩ := hSw; go_simp; done) | (intro w hSw; (try dsimp only at hSw); obtain ⟨q0, q1, q2, q3, q4, q5, q6⟩ := hSw; go_simp; with_reducible rfl)
          try simp only [Act.put, List.setIfInBounds_toArray, List.set_cons_zero, List.set_cons_succ]
          refine takeD (i := 9) (v := ?v65) (some 94) rfl (by kernel_rfl) (by kernel_rfl) (by kernel_rfl) (fun _ _ _ h => h) (Or.inl ⟨by rfl, ?hy65⟩) (by assumption) (by rfl) ?rest65
          case hy65 => first | (intro w hSw; (try dsimp only at hSw); obtain ⟨q0, q1, q2, q3, q4, q5, q6⟩ := hSw; go_simp; done) | (intro w hSw; (try dsimp only at hSw); obtain ⟨q0, q1, q2, q3, q4, q5, q6⟩ := hSw; go_simp; with_reducible rfl)
          try simp only [Act.put, List.setIfInBounds_toArray, List.set_cons_zero, List.set_cons_succ]
          refine takeD (i := 10) (v := ?v66) (some 95) rfl (by kernel_rfl) (by kernel_rfl) (by kernel_rfl) (fun _ _ _ h => h) (Or.inl ⟨by rfl, ?hy66⟩) (by assumption) (by rfl) ?rest66
          case hy66 => first | (intro w hSw; (try dsimp only at hSw); obtain ⟨q0, q1, q2, q3, q4, q5, q6⟩ := hSw; go_simp; done) | (intro w hSw; (try dsimp only at hSw); obtain ⟨q0, q1, q2, q3, q4, q5, q6⟩ := hSw; go_simp; with_reducible rfl)
          try simp only [Act.put, List.setIfInBounds_toArray, List.set_cons_zero, List.set_cons_succ]
          refine takeD (i := 11) (v := ?v67) (some 96) rfl (by kernel_rfl) (by kernel_rfl) (by kernel_rfl) (fun _ _ _ h => h) (Or.inl ⟨by rfl, ?hy67⟩) (by assumption) (by rfl) ?rest67
          case hy67 => first | (intro w hSw; (try dsimp only at hSw); obtain ⟨q0, q1, q2, q3, q4, q5, q6⟩ := hSw; go_simp; done) | (intro w hSw; (try dsimp only at hSw); obtain ⟨q0, q1, q2, q3, q4, q5, q6⟩ := hSw; go_simp; with_reducible rfl)
          try simp only [Act.put, List.setIfInBounds_toArray, List.set_cons_zero, List.set_cons_succ]
          refine takeD (i := 12) (v := ?v68) (some 97) rfl (by kernel_rfl) (by kernel_rfl) (by kernel_rfl) (fun _ _ _ h => h) (Or.inl ⟨by rfl, ?hy68⟩) (by assumption) (by rfl) ?rest68
          case hy68 => first | (intro w hSw; (try dsimp only at hSw); obtain ⟨q0, q1, q2, q3, q4, q5, q6⟩ := hSw; go_simp; done) | (intro w hSw; (try dsimp only at hSw); obtain ⟨q0, q1, q2, q3, q4, q5, q6⟩ := hSw; go_simp; with_reducible rfl)
          try simp only [Act.put, List.setIfInBounds_toArray, List.set_cons_zero, List.set_cons_succ]
          refine takeD (i := 13) (v := ?v69) (some 98) rfl (by kernel_rfl) (by kernel_rfl) (by kernel_rfl) (fun _ _ _ h => h) (Or.inl ⟨by rfl, ?hy69⟩) (by assumption) (by rfl) ?rest69
          case hy69 => first | (intro w hSw; (try dsimp only at hSw); obtain ⟨q0, q1, q2, q3, q4, q5, q6⟩ := hSw; go_simp; done) | (intro w hSw; (try dsimp only at hSw); obtain ⟨q0, q1, q2, q3, q4, q5, q6⟩ := hSw; go_simp; with_reducible rfl)
          try simp only [Act.put, List.setIfInBounds_toArray, List.set_cons_zero, List.set_cons_succ]
          refine takeD (i := 14) (v := ?v70) (some 99) rfl (by kernel_rfl) (by kernel_rfl) (by kernel_rfl) (fun _ _ _ h => h) (Or.inl ⟨by rfl, ?hy70⟩) (by assumption) (by rfl) ?rest70
          case hy70 => first | (intro w hSw; (try dsimp only at hSw); obtain ⟨q0, q1, q2, q3, q4, q5, q6⟩ := hSw; go_simp; done) | (intro w hSw; (try dsimp only at hSw); obtain ⟨q0, q1, q2, q3, q4, q5, q6⟩ := hSw; go_simp; with_reducible rfl)
          try simp only [Act.put, List.setIfInBounds_toArray, List.set_cons_zero, List.set_cons_succ]
          refine takeD (i := 15) (v := ?v71) (some 100) rfl (by kernel_rfl) (by kernel_rfl) (by kernel_rfl) (fun _ _ _ h => h) (Or.inl ⟨by rfl, ?hy71⟩) (by assumption) (by rfl) ?rest71
          case hy71 => first | (intro w hSw; (try dsimp only at hSw); obtain ⟨q0, q1, q2, q3, q4, q5, q6⟩ := hSw; go_simp; done) | (intro w hSw; (try dsimp only at hSw); obtain ⟨q0, q1, q2, q3, q4, q5, q6⟩ := hSw; go_simp; with_reducible rfl)
          try simp only [Act.put, List.setIfInBounds_toArray, List.set_cons_zero, List.set_cons_succ]
          refine takeD (i := 16) (v := ?v72) (some 101) rfl (by kernel_rfl) (by kernel_rfl) (by kernel_rfl) (fun _ _ _ h => h) (Or.inl ⟨by rfl, ?hy72⟩) (by assumption) (by rfl) ?rest72
          case hy72 => first | (intro w hSw; (try dsimp only at hSw); obtain ⟨q0, q1, q2, q3, q4, q5, q6⟩ := hSw; go_simp; done) | (intro w hSw; (try dsimp only at hSw); obtain ⟨q0, q1, q2, q3, q4, q5, q6⟩ := hSw; go_simp; with_reducible rfl)
          try simp only [Act.put, List.setIfInBounds_toArray, List.set_cons_zero, List.set_cons_succ]
          refine takeD (i := 17) (v := ?v73) (some 102) rfl (by kernel_rfl) (by kernel_rfl) (by kernel_rfl) (fun _ _ _ h => h) (Or.inl ⟨by rfl, ?hy73⟩) (by assumption) (by rfl) ?rest73
          case hy73 => first | (intro w hSw; (try dsimp only at hSw); obtain ⟨q0, q1, q2, q3, q4, q5, q6⟩ := hSw; go_simp; done) | (intro w hSw; (try dsimp only at hSw); obtain ⟨q0, q1, q2, q3, q4, q5, q6⟩ := hSw; go_simp; with_reducible rfl)
          try simp only [Act.put, List.setIfInBounds_toArray, List.set_cons_zero, List.set_cons_succ]
          refine takeD (i := 18) (v := ?v74) (some 103) rfl (by kernel_rfl) (by kernel_rfl) (by kernel_rfl) (fun _ _ _ h => h) (Or.inl ⟨by rfl, ?hy74⟩) (by assumption) (by rfl) ?rest74
          case hy74 => first | (intro w hSw; (try dsimp only at hSw); obtain ⟨q0, q1, q2, q3, q4, q5, q6⟩ := hSw; go_simp; done) | (intro w hSw; (try dsimp only at hSw); obtain ⟨q0, q1, q2, q3, q4, q5, q6⟩ := hSw; go_simp; with_reducible rfl)
          try simp only [Act.put, List.setIfInBounds_toArray, List.set_cons_zero, List.set_cons_succ]
          refine takeD (i := 19) (v := ?v75) (some 104) rfl (by kernel_rfl) (by kernel_rfl) (by kernel_rfl) (fun _ _ _ h => h) (Or.inl ⟨by rfl, ?hy75⟩) (by assumption) (by rfl) ?rest75
          case hy75 => first | (intro w hSw; (try dsimp only at hSw); obtain ⟨q0, q1, q2, q3, q4, q5, q6⟩ := hSw; go_simp; done) | (intro w hSw; (try dsimp only at hSw); obtain ⟨q0, q1, q2, q3, q4, q5, q6⟩ := hSw; go_simp; with_reducible rfl)
          try simp only [Act.put, List.setIfInBounds_toArray, List.set_cons_zero, List.set_cons_succ]
          refine wpAnyH_ready (rs := [20]) (by kernel_rfl) (by simp) ?_
          refine AllReadyH.cons rfl (fun K hK => ?_) AllReadyH.nil
          go_simp
          refine (HSAME.out _ (by (first | exact (Below.refl _ _).drew | exact Below.refl _ _))).mono ?_
          rintro e w14 ⟨rfl, hb14⟩
          have HB14 : Hid (Below W.heap.size W w14) := bafter (by (first | exact (Below.refl _ _).drew | exact Below.refl _ _)) hb14 (Nat.le_refl _)
          clear hb14 hHeld
          go_wp2_with fail
          refine hK.out _ _ (HS.out _ HB14.out) (fun hHeld => ?_)
          clear hK K
          try simp only [Act.put, List.setIfInBounds_toArray, List.set_cons_zero, List.set_cons_succ]
          refine takeD (i := 21) (v := ?v76) (some 106) rfl (by kernel_rfl) (by kernel_rfl) (by kernel_rfl) (fun _ _ _ h => h) (Or.inl ⟨by rfl, ?hy76⟩) (by assumption) (by rfl) ?rest76
          case hy76 => first | (intro w hSw; (try dsimp only at hSw); obtain ⟨q0, q1, q2, q3, q4, q5, q6⟩ := hSw; go_simp; done) | (intro w hSw; (try dsimp only at hSw); obtain ⟨q0, q1, q2, q3, q4, q5, q6⟩ := hSw; go_simp; with_reducible rfl)
          try simp only [Act.put, List.setIfInBounds_toArray, List.set_cons_zero, List.set_cons_succ]
          refine takeD (i := 22) (v := ?v77) (some 107) rfl (by kernel_rfl) (by kernel_rfl) (by kernel_rfl) (fun _ _ _ h => h) (Or.inl ⟨by rfl, ?hy77⟩) (by assumption) (by rfl) ?rest77
          case hy77 => first | (intro w hSw; (try dsimp only at hSw); obtain ⟨q0, q1, q2, q3, q4, q5, q6⟩ := hSw; go_simp; done) | (intro w hSw; (try dsimp only at hSw); obtain ⟨q0, q1, q2, q3, q4, q5, q6⟩ := hSw; go_simp; with_reducible rfl)
          try simp only [Act.put, List.setIfInBounds_toArray, List.set_cons_zero, List.set_cons_succ]
          clear hHeld
          refine wpAnyH_done (by kernel_rfl) ?_ _
          (try simp only [Exit.then])
          have n1 := (HJN.out.keep HB14.out).c0
          have n2 := (HJN.out.keep HB14.out).f0 0
          clear s0 n0 d1' d1n d2 d3
          gi_wp2
          have hbe := (bafter HBW.out HB14.out (Nat.le_refl _)).setCell (p := ⟨w12.heap.size, 0, none⟩) (Nat.le_refl _) (.int .i64 ((i : Int) + 1))
          refine ⟨(keepsFrom_of HB14.out).trans ((KeepsOthers.setCell _ _ _).from _), ⟨⟨?_, ⟨(F1.out.keep hbe).c0, F2.out.below hbe⟩⟩, ?_⟩, hbe⟩
          · have h9 := (HJN.out.keep HB14.out).put (.int .i64 ((i : Int) + 1))
            simpa using h9
          · exact (KeepsOthers.setCell w14 ⟨w12.heap.size, 0, none⟩ _).same D _ ((HB14.out.block D (Array.getElem?_eq_some_iff.1 HJX.out).1).trans HJX.out) rfl
        case done2 =>
          rintro D2 W6 hD2 ⟨jn, jk⟩ jD hbw hK2
          have hsm := summed_calls W6 (tab_keep HTAB.out (bafter HW12.out hbw (Nat.le_refl _)))
          have HJN := hide jn
          have HJD := hide jD
          have HBW6 := hide hbw
          have HK2 := hide hK2
          have HD2 := hide hD2
          clear jn jk jD hbw hK2 hD2
          go_wp2_with fail
          refine hsm.mono ?_
          rintro e W7 ⟨rfl, hb7⟩
          have HBC := hide (bafter HBW6.out hb7 (Nat.le_refl _))
          have HR7 := hide (F5.out.keep HBC.out)
          have r0 := HR7.out.c0
          have r1 := HR7.out.f0 0
          have p0 := (F6.out.keep HBC.out).c0
          have n1 := (HJN.out.keep hb7).c0
          have HB7 := hide (bafter HW12.out HBC.out (Nat.le_refl _))
          have HK7 := hide ((hb7.block D (Array.getElem?_eq_some_iff.1 HJD.out).1).trans HJD.out)
          have HK7' := hide ((hb7.block D2 (Array.getElem?_eq_some_iff.1 HK2.out).1).trans HK2.out)
          have hLL : M9.length = Ln := HLM.out
          rw [hLL] at n1
          have hee : ((Ln : Int) == (Ln : Int)) = true := by simp
          clear hsm hb7 hLL
          go_wp2
          have q1 := (KeepsOthers.setCell W7 ⟨w.heap.size + 1 + 1 + 1, 0, none⟩ (.bool true)).same D2 _ HK7'.out rfl
          have q0 := (KeepsOthers.setCell W7 ⟨w.heap.size + 1 + 1 + 1, 0, none⟩ (.bool true)).same D _ HK7.out rfl
          have hne : D ≠ D2 := by
            intro e
            have h1 := (Array.getElem?_eq_some_iff.1 HKD.out).1
            have h2 := HD2.out
            omega
          have q0' : ((W7.setCell ⟨w.heap.size + 1 + 1 + 1, 0, none⟩ (.bool true)).putObj D2 (.deferred none)).heap[D]? = some (.deferred (some [])) := (World.putObj_heap_other hne).trans q0
          refine ⟨by simp, .inl ⟨_, _, rfl, run_takeDeferred q1, ?_⟩⟩
          refine ⟨by simp, .inl ⟨_, _, rfl, run_takeDeferred q0', ?_⟩⟩
          have hc5 := ((cel_put (.deferred none) q0' rfl).uno ((cel_put (.deferred none) q1 rfl).uno (HR7.out.put (.bool true)))).c0
          refine ⟨.bool true, ?_, ⟨rfl, ((HB7.out.setCell (p := ⟨w.heap.size + 1 + 1 + 1, 0, none⟩) (by show _ ≤ w.heap.size + 1 + 1 + 1; omega) _).trans (belowK_b (w := w) (Nat.le_refl _) _ D2 _ _ (by have h1 := HD2.out; have h2 := HBW.out.size; have h3 := HW12.out.size; omega) q1 rfl rfl)).trans (belowK_b (w := w) (Nat.le_refl _) _ D _ _ (by have h1 := HD.out; have h3 := HW12.out.size; simp at h1; omega) q0' rfl rfl)⟩⟩
          simp [results, Tryz.f6, go_sem, hc5]
        case stop2 => exact fun D c k W hD hk h _ hb hK => h.elim

end Go.Proofs.YtkdhcpfmlelfcaaGreatDoor
