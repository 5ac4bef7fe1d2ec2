/- The law LinearSums, walked. -/
import Derived.Test.YtnfplceadkelaaaGreatDoorLnP3
namespace Go.Proofs.YtnfplceadkelaaaGreatDoor
set_option linter.unusedVariables false
set_option linter.unusedSimpArgs false
set_option maxRecDepth 100000
open Go Go.RowKit Go.Shelf Go.Lib

theorem bnd_by' {K : Nat} {l : Ps} {f : Int → Int} (h : NF l) (hc : ∀ u, cf u l = f u) (hf : ∀ u, (f u).natAbs < 10 ^ K) : BndT K l := fun p hp => by
  rw [← nf_mem h hp, hc]
  exact hf p.1
theorem bnd_of_cf {K : Nat} {l m : Ps} (h : NF l) (hc : ∀ u, cf u l = cf u m) (hb : BndT 80 m) (hm : m.length ≤ 12) (hK : K = 200) : BndT K l := bndT_up (nf_bndT h hc hb) (by omega)
theorem cf_92 {A : Ps} (ha : BndT 80 A) (la : A.length ≤ 12) (u : Int) : (cf u A).natAbs < 10 ^ 92 := ten_up (cf_boundT ha u) (by omega)
theorem ten_neg {x : Int} {k : Nat} (h : x.natAbs < 10 ^ k) : (-x).natAbs < 10 ^ k := by rw [Int.natAbs_neg]; exact h
theorem ten_sub {x y : Int} {k : Nat} (h : x.natAbs < 10 ^ k) (g : y.natAbs < 10 ^ k) : (x - y).natAbs < 10 ^ (k + 1) := by
  rw [Int.sub_eq_add_neg]
  exact ten_add h (ten_neg g)
theorem sums_bnd {x y : Int} {K j : Nat} (hx : x.natAbs < 10 ^ j) (hy : y.natAbs < 10 ^ j) (hj : j ≤ 99) (hK : K = 200) : (x + y).natAbs < 10 ^ K ∧ (x - y).natAbs < 10 ^ K ∧ (x * y).natAbs < 10 ^ K :=
  ⟨ten_up (ten_add hx hy) (by omega), ten_up (ten_sub hx hy) (by omega), ten_up (ten_mul hx hy) (by omega)⟩
theorem eq_both {l p q A B : Ps} {c d : Int} (hl : NF l) (hp : NF p) (hq : NF q) (h1 : ∀ u, cf u l = cf u A - cf u B) (h2 : ∀ u, cf u p = cf u A) (h3 : ∀ u, cf u q = cf u B) : decide (c = d ∧ p = q) = (decide (l.length = 0) && decide (c - d = 0)) := by
  have e1 : l.length = 0 ↔ p = q := by
    constructor
    · intro h
      refine nf_unique hp hq (fun u => ?_)
      have h4 := h1 u
      rw [List.eq_nil_of_length_eq_zero h, cf_nil] at h4
      rw [h2, h3]
      omega
    · intro h
      have h5 : l = [] := nf_unique hl NF.nil (fun u => by rw [h1, ← h2, ← h3, h, cf_nil]; omega)
      rw [h5]
      rfl
  have e2 : c - d = 0 ↔ c = d := by omega
  by_cases h : c = d <;> by_cases g : p = q <;> simp [e1, e2, h, g]
theorem two_third (w : World) (o o' : Obj) (x y : Value) (t : TypeId) : Two (((w.alloc o).alloc o').alloc (.cells #[x, y] t)) (w.heap.size + 2) x y t := by
  have := Two.new1 (w.alloc o) o' x y t
  rw [World.size_alloc] at this
  exact this

def SumsC (w3 : World) (A B : List Pt) (c d : Int) (s7 s8 : Value) (wx : World) : Prop :=
  ∃ b7 b8 xn xa xL xc xp xl xk M7 yn ya yL yc yp yl yk M8, s7 = .pointer (some ⟨b7, 0, none⟩) ∧ s8 = .pointer (some ⟨b8, 0, none⟩) ∧ Thr wx b7 (.bool xn) (.slice xa xL xc) (.slice xp xl xk) 35 ∧ Thr wx b8 (.bool yn) (.slice ya yL yc) (.slice yp yl yk) 35 ∧ RTerm wx (.agg #[.bool xn, .slice xa xL xc, .slice xp xl xk]) c M7 ∧ RTerm wx (.agg #[.bool yn, .slice ya yL yc, .slice yp yl yk]) d M8 ∧ ps M7 = ps A ∧ ps M8 = ps B ∧ Below w3.heap.size w3 wx

set_option maxHeartbeats 8000000 in
theorem lsums_calls (w : World) (v0 v1 : Value) (nn : Bool) (sn : Value) (zs : List Nat) (hz : Limbs w sn zs) {an : Bool} {aa : Option Addr} {aL ac : Nat} {ap : Option Addr} {al ak : Nat} {A : List Pt} {bn : Bool} {ba : Option Addr} {bL bc : Nat} {bp : Option Addr} {bl bk : Nat} {B : List Pt}
    (h : TermI w v0 an aa aL ac ap al ak A) (g : TermI w v1 bn ba bL bc bp bl bk B) (htab : TabIs Tryz.prog w "internal/strconv.uint64pow10" .u64 pow10Tab) :
    Calls Tryz.prog 4 #[v0, v1, .agg #[.bool nn, sn]] w fun e w' => e = .returned (.bool true) ∧ Below w.heap.size w w' := by
  have e0 := h.1
  have e2 := g.1
  subst e0 e2
  obtain ⟨na, nc, rfl⟩ := hz.len
  generalize hLz : zs.length = nL at *
  have HLZ := hide hLz
  have HZ := hide hz
  have tb := ((Thr.new w (.bool an) (.slice aa aL ac) (.slice ap al ak) 27).alloc (.cells #[.bool bn, .slice ba bL bc, .slice bp bl bk] 27)).alloc (.cells #[.bool nn, .slice na nL nc] 24)
  have tc := (Thr.new1 w (.cells #[.bool an, .slice aa aL ac, .slice ap al ak] 27) (.bool bn) (.slice ba bL bc) (.slice bp bl bk) 27).alloc (.cells #[.bool nn, .slice na nL nc] 24)
  have td := two_third w (.cells #[.bool an, .slice aa aL ac, .slice ap al ak] 27) (.cells #[.bool bn, .slice ba bL bc, .slice bp bl bk] 27) (.bool nn) (.slice na nL nc) 24
  have hba : Below w.heap.size w (((w.alloc (.cells #[.bool an, .slice aa aL ac, .slice ap al ak] 27)).alloc (.cells #[.bool bn, .slice ba bL bc, .slice bp bl bk] 27)).alloc (.cells #[.bool nn, .slice na nL nc] 24)) := bel3 w _ _ _
  generalize hwA : (((w.alloc (.cells #[.bool an, .slice aa aL ac, .slice ap al ak] 27)).alloc (.cells #[.bool bn, .slice ba bL bc, .slice bp bl bk] 27)).alloc (.cells #[.bool nn, .slice na nL nc] 24)) = wA at *
  have HWA := hide hwA
  have TB := hide tb
  have TC := hide tc
  have TD := hide td
  have HBA := hide hba
  have HA := hide h
  have HB := hide g
  have HTAB := hide htab
  have hlt := h.light hba
  obtain ⟨c0, c1, c2, _, _, _⟩ := tb.every
  clear hwA tb tc td hba h g htab hLz hz
  go_enter Tryz.func4, Tryz.ntmps4
  go_upto_region 1 with fail
  rw [HWA.out]
  go_wp2_with fail
  refine hlt.mono ?_
  rintro e w1 ⟨r1, rfl, hl1, hb1⟩
  have HB1 := hide hb1
  have HW1 := hide (bafter HBA.out hb1 (Nat.le_refl _))
  cases r1 with
  | false =>
    have hsm := summed_calls w1 (tab_keep HTAB.out HW1.out)
    clear hlt hl1 hb1 c0 c1 c2
    go_wp2_with fail
    refine hsm.mono ?_
    rintro e w2 ⟨rfl, hb2⟩
    have HW2 := hide (bafter HW1.out hb2 (Nat.le_refl _))
    clear hsm hb2
    go_wp2
    go_ret
    exact ⟨rfl, HW2.out⟩
  | true =>
    have hLA := hl1.1 rfl
    have HLA := hide hLA
    have TC1 := hide (TC.out.keep hb1)
    obtain ⟨x0, x1, x2, _, _, _⟩ := TC1.out.every
    have hlt2 := HB.out.light HW1.out
    clear hlt hl1 hb1 c0 c1 c2 hLA
    go_wp2_with fail
    refine hlt2.mono ?_
    rintro e w2 ⟨r2, rfl, hl2, hb2⟩
    have HW2 := hide (bafter HW1.out hb2 (Nat.le_refl _))
    cases r2 with
    | false =>
      have hsm := summed_calls w2 (tab_keep HTAB.out HW2.out)
      clear hlt2 hl2 hb2 x0 x1 x2
      go_wp2_with fail
      refine hsm.mono ?_
      rintro e w3 ⟨rfl, hb3⟩
      have HW3 := hide (bafter HW2.out hb3 (Nat.le_refl _))
      clear hsm hb3
      go_wp2
      go_ret
      exact ⟨rfl, HW3.out⟩
    | true =>
      obtain ⟨c, hbo⟩ := HA.out.both HLA.out
      obtain ⟨d, hbp⟩ := HB.out.both (hl2.1 rfl)
      have HBO := hide hbo
      have HBP := hide hbp
      have TB2 := hide ((TB.out.keep HB1.out).keep hb2)
      have TC2 := hide (TC1.out.keep hb2)
      have TD2 := hide ((TD.out.keep HB1.out).keep hb2)
      obtain ⟨K9, hK9⟩ : ∃ K9, K9 = 200 := ⟨_, rfl⟩
      have n0 := TD2.out.c0
      have n1 := TD2.out.c1
      clear hlt2 hl2 hb2 x0 x1 x2 hbo hbp
      by_cases hn4 : ¬ nL ≤ 4
      · have hsl := gsmall_no (w := w2) (neg := nn) (a := na) (c := nc) hn4
        clear hn4
        go_wp2_with fail
        refine hsl.mono ?_
        rintro e w3 ⟨rfl, hb3⟩
        have HW3 := hide (bafter HW2.out hb3 (Nat.le_refl _))
        have hsm := summed_calls w3 (tab_keep HTAB.out HW3.out)
        clear hsl hb3 n0 n1
        go_wp2_with fail
        refine hsm.mono ?_
        rintro e w4 ⟨rfl, hb4⟩
        have HW4 := hide (bafter HW3.out hb4 (Nat.le_refl _))
        clear hsm hb4
        go_wp2
        go_ret
        exact ⟨rfl, HW4.out⟩
      have h4 : nL ≤ 4 := by omega
      have hsl := gsmall_yes (w := w2) (neg := nn) (a := na) (c := nc) h4
      have H4 := hide h4
      clear hn4 h4
      go_wp2_with fail
      refine hsl.mono ?_
      rintro e w3 ⟨rfl, hb3⟩
      have HW3 := hide (bafter HW2.out hb3 (Nat.le_refl _))
      have TB3 := hide (TB2.out.keep hb3)
      have TC3 := hide (TC2.out.keep hb3)
      have TD3 := hide (TD2.out.keep hb3)
      obtain ⟨z, hzz⟩ : ∃ z, z = sgn nn (val R zs) := ⟨_, rfl⟩
      have HZB : Hid (BArg w (.agg #[.bool nn, .slice na nL nc]) z) := by
        show BArg _ _ _
        rw [hzz]
        have h9 := HZ.out
        rw [← HLZ.out] at h9 ⊢
        exact box_arg h9 (by rw [HLZ.out]; have := H4.out; omega)
      have HZL : Hid (z.natAbs < 10 ^ 80) := by
        show _ < _
        rw [hzz]
        exact bl10 (bl_limbs HZ.out.small (by rw [HLZ.out]; have := H4.out; omega))
      have HZZ := hide hzz
      clear hsl hb3 n0 n1 hzz
      have HS : Hid (∀ X : World, Below w3.heap.size w3 X → X.cell? ⟨w.heap.size, 0, none⟩ = some (.bool an) ∧ X.cell? ⟨w.heap.size, 1, none⟩ = some (.slice aa aL ac) ∧ X.cell? ⟨w.heap.size, 2, none⟩ = some (.slice ap al ak) ∧ X.cell? ⟨w.heap.size + 1, 0, none⟩ = some (.bool bn) ∧ X.cell? ⟨w.heap.size + 1, 1, none⟩ = some (.slice ba bL bc) ∧ X.cell? ⟨w.heap.size + 1, 2, none⟩ = some (.slice bp bl bk) ∧ X.cell? ⟨w.heap.size + 2, 0, none⟩ = some (.bool nn) ∧ X.cell? ⟨w.heap.size + 2, 1, none⟩ = some (.slice na nL nc)) := fun X hX => ⟨(TB3.out.keep hX).c0, (TB3.out.keep hX).c1, (TB3.out.keep hX).c2, (TC3.out.keep hX).c0, (TC3.out.keep hX).c1, (TC3.out.keep hX).c2, (TD3.out.keep hX).c0, (TD3.out.keep hX).c1⟩
      go_upto_region 3 with fail
      go_cut [7, 8] from 23 to 67 (fun s7 s8 wx => SumsC w3 A B c d s7 s8 wx)
      case first =>
        refine wp_region_held_drew (S := fun X : World => X.cell? ⟨w.heap.size, 0, none⟩ = some (.bool an) ∧ X.cell? ⟨w.heap.size, 1, none⟩ = some (.slice aa aL ac) ∧ X.cell? ⟨w.heap.size, 2, none⟩ = some (.slice ap al ak) ∧ X.cell? ⟨w.heap.size + 1, 0, none⟩ = some (.bool bn) ∧ X.cell? ⟨w.heap.size + 1, 1, none⟩ = some (.slice ba bL bc) ∧ X.cell? ⟨w.heap.size + 1, 2, none⟩ = some (.slice bp bl bk) ∧ X.cell? ⟨w.heap.size + 2, 0, none⟩ = some (.bool nn) ∧ X.cell? ⟨w.heap.size + 2, 1, none⟩ = some (.slice na nL nc)) (by kernel_rfl) ?_ (fun hHeld => ?_)
        · exact HS.out _ (by (first | exact (Below.refl _ _).drew | exact Below.refl _ _))
        refine takeD (i := 0) (v := ?v1) (some 23) rfl (by kernel_rfl) (by kernel_rfl) (by kernel_rfl) (fun _ _ _ h => h) (Or.inl ⟨by rfl, ?hy1⟩) (by assumption) (by rfl) ?rest1
        case hy1 => first | (intro w hSw; (try dsimp only at hSw); obtain ⟨q0, q1, q2, q3, q4, q5, q6, q7⟩ := hSw; go_simp; done) | (intro w hSw; (try dsimp only at hSw); obtain ⟨q0, q1, q2, q3, q4, q5, q6, q7⟩ := hSw; go_simp; with_reducible rfl)
        try simp only [Act.put, List.setIfInBounds_toArray, List.set_cons_zero, List.set_cons_succ]
        refine takeD (i := 2) (v := ?v2) (some 25) rfl (by kernel_rfl) (by kernel_rfl) (by kernel_rfl) (fun _ _ _ h => h) (Or.inl ⟨by rfl, ?hy2⟩) (by assumption) (by rfl) ?rest2
        case hy2 => first | (intro w hSw; (try dsimp only at hSw); obtain ⟨q0, q1, q2, q3, q4, q5, q6, q7⟩ := hSw; go_simp; done) | (intro w hSw; (try dsimp only at hSw); obtain ⟨q0, q1, q2, q3, q4, q5, q6, q7⟩ := hSw; go_simp; with_reducible rfl)
        try simp only [Act.put, List.setIfInBounds_toArray, List.set_cons_zero, List.set_cons_succ]
        have bwd : Below w3.heap.size w3 w3.drew := (Below.refl _ _).drew
        generalize w3.drew = wd at *
        have BX0 := hide bwd
        clear bwd hHeld
        refine wpAnyH_ready (rs := [1, 4, 5]) (by kernel_rfl) (by simp) ?_
        refine AllReadyH.cons rfl (fun K hK => ?_) (AllReadyH.cons rfl (fun K hK => ?_) (AllReadyH.cons rfl (fun K hK => ?_) AllReadyH.nil))
        · go_simp
          refine (HBO.out.of (bafter HW3.out BX0.out (Nat.le_refl _))).mono ?_
          rintro e x1 ⟨vv, M1, rfl, ht, hc, hb⟩
          obtain ⟨xn, xa, xL, xc, xp, xl, xk, rfl⟩ := ht.form
          have BX1 : Hid (Below w3.heap.size w3 x1) := bafter BX0.out hb (Nat.le_refl _)
          have HT1_1 := hide ht
          have HC1 := hide hc
          clear ht hc hb
          go_wp2_with fail
          refine hK.out _ _ (HS.out _ BX1.out) (fun hHeld => ?_)
          clear hK K hHeld
          try simp only [Act.put, List.setIfInBounds_toArray, List.set_cons_zero, List.set_cons_succ]
          refine wpAnyH_ready (rs := [3, 4, 5]) (by kernel_rfl) (by simp) ?_
          refine AllReadyH.cons rfl (fun K hK => ?_) (AllReadyH.cons rfl (fun K hK => ?_) (AllReadyH.cons rfl (fun K hK => ?_) AllReadyH.nil))
          · go_simp
            refine (HBP.out.of (bafter HW3.out BX1.out (Nat.le_refl _))).mono ?_
            rintro e x2 ⟨vv, M3, rfl, ht, hc, hb⟩
            obtain ⟨yn, ya, yL, yc, yp, yl, yk, rfl⟩ := ht.form
            have BX2 : Hid (Below w3.heap.size w3 x2) := bafter BX1.out hb (Nat.le_refl _)
            have HT3_2 := hide ht
            have HC3 := hide hc
            have HT1_2 := hide (HT1_1.out.below hb)
            clear ht hc hb
            go_wp2_with fail
            refine hK.out _ _ (HS.out _ BX2.out) (fun hHeld => ?_)
            clear hK K hHeld
            try simp only [Act.put, List.setIfInBounds_toArray, List.set_cons_zero, List.set_cons_succ]
            refine wpAnyH_ready (rs := [4, 5]) (by kernel_rfl) (by simp) ?_
            refine AllReadyH.cons rfl (fun K hK => ?_) (AllReadyH.cons rfl (fun K hK => ?_) AllReadyH.nil)
            · go_simp
              have tn := Thr.new x2 (.bool false) (.slice none 0 0) (.slice none 0 0) 35
              have hb := bel x2 (.cells #[.bool false, .slice none 0 0, .slice none 0 0] 35)
              have BX3 := hide (bafter BX2.out hb (Nat.le_refl _))
              have LB7 : Hid (w3.heap.size ≤ x2.heap.size) := BX2.out.size
              have TB7_3 := hide tn
              have HT1_3 := hide (HT1_2.out.below hb)
              have HT3_3 := hide (HT3_2.out.below hb)
              clear tn hb
              generalize x2.heap.size = b7 at *
              generalize x2.alloc (.cells #[.bool false, .slice none 0 0, .slice none 0 0] 35) = x3 at *
              refine hK.out _ _ (HS.out _ BX3.out) (fun hHeld => ?_)
              clear hK K hHeld
              try simp only [Act.put, List.setIfInBounds_toArray, List.set_cons_zero, List.set_cons_succ]
              refine wpAnyH_ready (rs := [5]) (by kernel_rfl) (by simp) ?_
              refine AllReadyH.cons rfl (fun K hK => ?_) AllReadyH.nil
              go_simp
              have tn := Thr.new x3 (.bool false) (.slice none 0 0) (.slice none 0 0) 35
              have hb := bel x3 (.cells #[.bool false, .slice none 0 0, .slice none 0 0] 35)
              have BX4 := hide (bafter BX3.out hb (Nat.le_refl _))
              have LB8 : Hid (w3.heap.size ≤ x3.heap.size) := BX3.out.size
              have TB8_4 := hide tn
              have HT1_4 := hide (HT1_3.out.below hb)
              have HT3_4 := hide (HT3_3.out.below hb)
              have TB7_4 := hide (TB7_3.out.keep hb)
              have NE : Hid (b7 ≠ x3.heap.size) := Nat.ne_of_lt TB7_3.out.lt
              clear tn hb
              generalize x3.heap.size = b8 at *
              generalize x3.alloc (.cells #[.bool false, .slice none 0 0, .slice none 0 0] 35) = x4 at *
              refine hK.out _ _ (HS.out _ BX4.out) (fun hHeld => ?_)
              clear hK K hHeld
              try simp only [Act.put, List.setIfInBounds_toArray, List.set_cons_zero, List.set_cons_succ]
              refine wpAnyH_ready (rs := [6]) (by kernel_rfl) (by simp) ?_
              refine AllReadyH.cons rfl (fun K hK => ?_) AllReadyH.nil
              obtain ⟨z0, z1, z2, f0, f1, f2⟩ := TB7_4.out.every
              go_simp
              have nb : b8 ≠ b7 := by first | exact NE.out | exact NE.out.symm
              have bn := TB7_4.out.but (.bool xn) (.slice xa xL xc) (.slice xp xl xk)
              have TB7_5 := hide (TB7_4.out.put (.bool xn) (.slice xa xL xc) (.slice xp xl xk))
              have TB8_5 : Hid (Thr (put3 x4 b7 (.bool xn) (.slice xa xL xc) (.slice xp xl xk)) b8 _ _ _ _) := (put3_other nb (.bool xn) (.slice xa xL xc) (.slice xp xl xk)).trans TB8_4.out
              have BX5 := hide (put3_below BX4.out LB7.out (.bool xn) (.slice xa xL xc) (.slice xp xl xk))
              have HT1_5 := hide (HT1_4.out.but bn)
              have HT3_5 := hide (HT3_4.out.but bn)
              clear z0 z1 z2 f0 f1 f2 nb bn
              refine hK.out _ (put3 x4 b7 (.bool xn) (.slice xa xL xc) (.slice xp xl xk)) (HS.out _ BX5.out) (fun hHeld => ?_)
              clear hK K hHeld
              generalize put3 x4 b7 (.bool xn) (.slice xa xL xc) (.slice xp xl xk) = x5 at *
              try simp only [Act.put, List.setIfInBounds_toArray, List.set_cons_zero, List.set_cons_succ]
              refine wpAnyH_ready (rs := [7]) (by kernel_rfl) (by simp) ?_
              refine AllReadyH.cons rfl (fun K hK => ?_) AllReadyH.nil
              obtain ⟨z0, z1, z2, f0, f1, f2⟩ := TB8_5.out.every
              go_simp
              have nb : b7 ≠ b8 := by first | exact NE.out | exact NE.out.symm
              have bn := TB8_5.out.but (.bool yn) (.slice ya yL yc) (.slice yp yl yk)
              have TB8_6 := hide (TB8_5.out.put (.bool yn) (.slice ya yL yc) (.slice yp yl yk))
              have TB7_6 : Hid (Thr (put3 x5 b8 (.bool yn) (.slice ya yL yc) (.slice yp yl yk)) b7 _ _ _ _) := (put3_other nb (.bool yn) (.slice ya yL yc) (.slice yp yl yk)).trans TB7_5.out
              have BX6 := hide (put3_below BX5.out LB8.out (.bool yn) (.slice ya yL yc) (.slice yp yl yk))
              have HT1_6 := hide (HT1_5.out.but bn)
              have HT3_6 := hide (HT3_5.out.but bn)
              clear z0 z1 z2 f0 f1 f2 nb bn
              refine hK.out _ (put3 x5 b8 (.bool yn) (.slice ya yL yc) (.slice yp yl yk)) (HS.out _ BX6.out) (fun hHeld => ?_)
              clear hK K hHeld
              generalize put3 x5 b8 (.bool yn) (.slice ya yL yc) (.slice yp yl yk) = x6 at *
              try simp only [Act.put, List.setIfInBounds_toArray, List.set_cons_zero, List.set_cons_succ]
              refine wpAnyH_done (by kernel_rfl) ?_ _
              go_wp2_with fail
              go_meet
              exact ⟨b7, b8, xn, xa, xL, xc, xp, xl, xk, M1, yn, ya, yL, yc, yp, yl, yk, M3, rfl, rfl, TB7_6.out, TB8_6.out, HT1_6.out, HT3_6.out, HC1.out, HC3.out, BX6.out⟩
            · go_simp
              have tn := Thr.new x2 (.bool false) (.slice none 0 0) (.slice none 0 0) 35
              have hb := bel x2 (.cells #[.bool false, .slice none 0 0, .slice none 0 0] 35)
              have BX3 := hide (bafter BX2.out hb (Nat.le_refl _))
              have LB8 : Hid (w3.heap.size ≤ x2.heap.size) := BX2.out.size
              have TB8_3 := hide tn
              have HT1_3 := hide (HT1_2.out.below hb)
              have HT3_3 := hide (HT3_2.out.below hb)
              clear tn hb
              generalize x2.heap.size = b8 at *
              generalize x2.alloc (.cells #[.bool false, .slice none 0 0, .slice none 0 0] 35) = x3 at *
              refine hK.out _ _ (HS.out _ BX3.out) (fun hHeld => ?_)
              clear hK K hHeld
              try simp only [Act.put, List.setIfInBounds_toArray, List.set_cons_zero, List.set_cons_succ]
              refine wpAnyH_ready (rs := [4]) (by kernel_rfl) (by simp) ?_
              refine AllReadyH.cons rfl (fun K hK => ?_) AllReadyH.nil
              go_simp
              have tn := Thr.new x3 (.bool false) (.slice none 0 0) (.slice none 0 0) 35
              have hb := bel x3 (.cells #[.bool false, .slice none 0 0, .slice none 0 0] 35)
              have BX4 := hide (bafter BX3.out hb (Nat.le_refl _))
              have LB7 : Hid (w3.heap.size ≤ x3.heap.size) := BX3.out.size
              have TB7_4 := hide tn
              have HT1_4 := hide (HT1_3.out.below hb)
              have HT3_4 := hide (HT3_3.out.below hb)
              have TB8_4 := hide (TB8_3.out.keep hb)
              have NE : Hid (b8 ≠ x3.heap.size) := Nat.ne_of_lt TB8_3.out.lt
              clear tn hb
              generalize x3.heap.size = b7 at *
              generalize x3.alloc (.cells #[.bool false, .slice none 0 0, .slice none 0 0] 35) = x4 at *
              refine hK.out _ _ (HS.out _ BX4.out) (fun hHeld => ?_)
              clear hK K hHeld
              try simp only [Act.put, List.setIfInBounds_toArray, List.set_cons_zero, List.set_cons_succ]
              refine wpAnyH_ready (rs := [6]) (by kernel_rfl) (by simp) ?_
              refine AllReadyH.cons rfl (fun K hK => ?_) AllReadyH.nil
              obtain ⟨z0, z1, z2, f0, f1, f2⟩ := TB7_4.out.every
              go_simp
              have nb : b8 ≠ b7 := by first | exact NE.out | exact NE.out.symm
              have bn := TB7_4.out.but (.bool xn) (.slice xa xL xc) (.slice xp xl xk)
              have TB7_5 := hide (TB7_4.out.put (.bool xn) (.slice xa xL xc) (.slice xp xl xk))
              have TB8_5 : Hid (Thr (put3 x4 b7 (.bool xn) (.slice xa xL xc) (.slice xp xl xk)) b8 _ _ _ _) := (put3_other nb (.bool xn) (.slice xa xL xc) (.slice xp xl xk)).trans TB8_4.out
              have BX5 := hide (put3_below BX4.out LB7.out (.bool xn) (.slice xa xL xc) (.slice xp xl xk))
              have HT1_5 := hide (HT1_4.out.but bn)
              have HT3_5 := hide (HT3_4.out.but bn)
              clear z0 z1 z2 f0 f1 f2 nb bn
              refine hK.out _ (put3 x4 b7 (.bool xn) (.slice xa xL xc) (.slice xp xl xk)) (HS.out _ BX5.out) (fun hHeld => ?_)
              clear hK K hHeld
              generalize put3 x4 b7 (.bool xn) (.slice xa xL xc) (.slice xp xl xk) = x5 at *
              try simp only [Act.put, List.setIfInBounds_toArray, List.set_cons_zero, List.set_cons_succ]
              refine wpAnyH_ready (rs := [7]) (by kernel_rfl) (by simp) ?_
              refine AllReadyH.cons rfl (fun K hK => ?_) AllReadyH.nil
              obtain ⟨z0, z1, z2, f0, f1, f2⟩ := TB8_5.out.every
              go_simp
              have nb : b7 ≠ b8 := by first | exact NE.out | exact NE.out.symm
              have bn := TB8_5.out.but (.bool yn) (.slice ya yL yc) (.slice yp yl yk)
              have TB8_6 := hide (TB8_5.out.put (.bool yn) (.slice ya yL yc) (.slice yp yl yk))
              have TB7_6 : Hid (Thr (put3 x5 b8 (.bool yn) (.slice ya yL yc) (.slice yp yl yk)) b7 _ _ _ _) := (put3_other nb (.bool yn) (.slice ya yL yc) (.slice yp yl yk)).trans TB7_5.out
              have BX6 := hide (put3_below BX5.out LB8.out (.bool yn) (.slice ya yL yc) (.slice yp yl yk))
              have HT1_6 := hide (HT1_5.out.but bn)
              have HT3_6 := hide (HT3_5.out.but bn)
              clear z0 z1 z2 f0 f1 f2 nb bn
              refine hK.out _ (put3 x5 b8 (.bool yn) (.slice ya yL yc) (.slice yp yl yk)) (HS.out _ BX6.out) (fun hHeld => ?_)
              clear hK K hHeld
              generalize put3 x5 b8 (.bool yn) (.slice ya yL yc) (.slice yp yl yk) = x6 at *
              try simp only [Act.put, List.setIfInBounds_toArray, List.set_cons_zero, List.set_cons_succ]
              refine wpAnyH_done (by kernel_rfl) ?_ _
              go_wp2_with fail
              go_meet
              exact ⟨b7, b8, xn, xa, xL, xc, xp, xl, xk, M1, yn, ya, yL, yc, yp, yl, yk, M3, rfl, rfl, TB7_6.out, TB8_6.out, HT1_6.out, HT3_6.out, HC1.out, HC3.out, BX6.out⟩
          · go_simp
            have tn := Thr.new x1 (.bool false) (.slice none 0 0) (.slice none 0 0) 35
            have hb := bel x1 (.cells #[.bool false, .slice none 0 0, .slice none 0 0] 35)
            have BX2 := hide (bafter BX1.out hb (Nat.le_refl _))
            have LB7 : Hid (w3.heap.size ≤ x1.heap.size) := BX1.out.size
            have TB7_2 := hide tn
            have HT1_2 := hide (HT1_1.out.below hb)
            clear tn hb
            generalize x1.heap.size = b7 at *
            generalize x1.alloc (.cells #[.bool false, .slice none 0 0, .slice none 0 0] 35) = x2 at *
            refine hK.out _ _ (HS.out _ BX2.out) (fun hHeld => ?_)
            clear hK K hHeld
            try simp only [Act.put, List.setIfInBounds_toArray, List.set_cons_zero, List.set_cons_succ]
            refine wpAnyH_ready (rs := [3, 5]) (by kernel_rfl) (by simp) ?_
            refine AllReadyH.cons rfl (fun K hK => ?_) (AllReadyH.cons rfl (fun K hK => ?_) AllReadyH.nil)
            · go_simp
              refine (HBP.out.of (bafter HW3.out BX2.out (Nat.le_refl _))).mono ?_
              rintro e x3 ⟨vv, M3, rfl, ht, hc, hb⟩
              obtain ⟨yn, ya, yL, yc, yp, yl, yk, rfl⟩ := ht.form
              have BX3 : Hid (Below w3.heap.size w3 x3) := bafter BX2.out hb (Nat.le_refl _)
              have HT3_3 := hide ht
              have HC3 := hide hc
              have HT1_3 := hide (HT1_2.out.below hb)
              have TB7_3 := hide (TB7_2.out.keep hb)
              clear ht hc hb
              go_wp2_with fail
              refine hK.out _ _ (HS.out _ BX3.out) (fun hHeld => ?_)
              clear hK K hHeld
              try simp only [Act.put, List.setIfInBounds_toArray, List.set_cons_zero, List.set_cons_succ]
              refine wpAnyH_ready (rs := [5]) (by kernel_rfl) (by simp) ?_
              refine AllReadyH.cons rfl (fun K hK => ?_) AllReadyH.nil
              go_simp
              have tn := Thr.new x3 (.bool false) (.slice none 0 0) (.slice none 0 0) 35
              have hb := bel x3 (.cells #[.bool false, .slice none 0 0, .slice none 0 0] 35)
              have BX4 := hide (bafter BX3.out hb (Nat.le_refl _))
              have LB8 : Hid (w3.heap.size ≤ x3.heap.size) := BX3.out.size
              have TB8_4 := hide tn
              have HT1_4 := hide (HT1_3.out.below hb)
              have HT3_4 := hide (HT3_3.out.below hb)
              have TB7_4 := hide (TB7_3.out.keep hb)
              have NE : Hid (b7 ≠ x3.heap.size) := Nat.ne_of_lt TB7_3.out.lt
              clear tn hb
              generalize x3.heap.size = b8 at *
              generalize x3.alloc (.cells #[.bool false, .slice none 0 0, .slice none 0 0] 35) = x4 at *
              refine hK.out _ _ (HS.out _ BX4.out) (fun hHeld => ?_)
              clear hK K hHeld
              try simp only [Act.put, List.setIfInBounds_toArray, List.set_cons_zero, List.set_cons_succ]
              refine wpAnyH_ready (rs := [6]) (by kernel_rfl) (by simp) ?_
              refine AllReadyH.cons rfl (fun K hK => ?_) AllReadyH.nil
              obtain ⟨z0, z1, z2, f0, f1, f2⟩ := TB7_4.out.every
              go_simp
              have nb : b8 ≠ b7 := by first | exact NE.out | exact NE.out.symm
              have bn := TB7_4.out.but (.bool xn) (.slice xa xL xc) (.slice xp xl xk)
              have TB7_5 := hide (TB7_4.out.put (.bool xn) (.slice xa xL xc) (.slice xp xl xk))
              have TB8_5 : Hid (Thr (put3 x4 b7 (.bool xn) (.slice xa xL xc) (.slice xp xl xk)) b8 _ _ _ _) := (put3_other nb (.bool xn) (.slice xa xL xc) (.slice xp xl xk)).trans TB8_4.out
              have BX5 := hide (put3_below BX4.out LB7.out (.bool xn) (.slice xa xL xc) (.slice xp xl xk))
              have HT1_5 := hide (HT1_4.out.but bn)
              have HT3_5 := hide (HT3_4.out.but bn)
              clear z0 z1 z2 f0 f1 f2 nb bn
              refine hK.out _ (put3 x4 b7 (.bool xn) (.slice xa xL xc) (.slice xp xl xk)) (HS.out _ BX5.out) (fun hHeld => ?_)
              clear hK K hHeld
              generalize put3 x4 b7 (.bool xn) (.slice xa xL xc) (.slice xp xl xk) = x5 at *
              try simp only [Act.put, List.setIfInBounds_toArray, List.set_cons_zero, List.set_cons_succ]
              refine wpAnyH_ready (rs := [7]) (by kernel_rfl) (by simp) ?_
              refine AllReadyH.cons rfl (fun K hK => ?_) AllReadyH.nil
              obtain ⟨z0, z1, z2, f0, f1, f2⟩ := TB8_5.out.every
              go_simp
              have nb : b7 ≠ b8 := by first | exact NE.out | exact NE.out.symm
              have bn := TB8_5.out.but (.bool yn) (.slice ya yL yc) (.slice yp yl yk)
              have TB8_6 := hide (TB8_5.out.put (.bool yn) (.slice ya yL yc) (.slice yp yl yk))
              have TB7_6 : Hid (Thr (put3 x5 b8 (.bool yn) (.slice ya yL yc) (.slice yp yl yk)) b7 _ _ _ _) := (put3_other nb (.bool yn) (.slice ya yL yc) (.slice yp yl yk)).trans TB7_5.out
              have BX6 := hide (put3_below BX5.out LB8.out (.bool yn) (.slice ya yL yc) (.slice yp yl yk))
              have HT1_6 := hide (HT1_5.out.but bn)
              have HT3_6 := hide (HT3_5.out.but bn)
              clear z0 z1 z2 f0 f1 f2 nb bn
              refine hK.out _ (put3 x5 b8 (.bool yn) (.slice ya yL yc) (.slice yp yl yk)) (HS.out _ BX6.out) (fun hHeld => ?_)
              clear hK K hHeld
              generalize put3 x5 b8 (.bool yn) (.slice ya yL yc) (.slice yp yl yk) = x6 at *
              try simp only [Act.put, List.setIfInBounds_toArray, List.set_cons_zero, List.set_cons_succ]
              refine wpAnyH_done (by kernel_rfl) ?_ _
              go_wp2_with fail
              go_meet
              exact ⟨b7, b8, xn, xa, xL, xc, xp, xl, xk, M1, yn, ya, yL, yc, yp, yl, yk, M3, rfl, rfl, TB7_6.out, TB8_6.out, HT1_6.out, HT3_6.out, HC1.out, HC3.out, BX6.out⟩
            · go_simp
              have tn := Thr.new x2 (.bool false) (.slice none 0 0) (.slice none 0 0) 35
              have hb := bel x2 (.cells #[.bool false, .slice none 0 0, .slice none 0 0] 35)
              have BX3 := hide (bafter BX2.out hb (Nat.le_refl _))
              have LB8 : Hid (w3.heap.size ≤ x2.heap.size) := BX2.out.size
              have TB8_3 := hide tn
              have HT1_3 := hide (HT1_2.out.below hb)
              have TB7_3 := hide (TB7_2.out.keep hb)
              have NE : Hid (b7 ≠ x2.heap.size) := Nat.ne_of_lt TB7_2.out.lt
              clear tn hb
              generalize x2.heap.size = b8 at *
              generalize x2.alloc (.cells #[.bool false, .slice none 0 0, .slice none 0 0] 35) = x3 at *
              refine hK.out _ _ (HS.out _ BX3.out) (fun hHeld => ?_)
              clear hK K hHeld
              try simp only [Act.put, List.setIfInBounds_toArray, List.set_cons_zero, List.set_cons_succ]
              refine wpAnyH_ready (rs := [3]) (by kernel_rfl) (by simp) ?_
              refine AllReadyH.cons rfl (fun K hK => ?_) AllReadyH.nil
              go_simp
              refine (HBP.out.of (bafter HW3.out BX3.out (Nat.le_refl _))).mono ?_
              rintro e x4 ⟨vv, M3, rfl, ht, hc, hb⟩
              obtain ⟨yn, ya, yL, yc, yp, yl, yk, rfl⟩ := ht.form
              have BX4 : Hid (Below w3.heap.size w3 x4) := bafter BX3.out hb (Nat.le_refl _)
              have HT3_4 := hide ht
              have HC3 := hide hc
              have HT1_4 := hide (HT1_3.out.below hb)
              have TB7_4 := hide (TB7_3.out.keep hb)
              have TB8_4 := hide (TB8_3.out.keep hb)
              clear ht hc hb
              go_wp2_with fail
              refine hK.out _ _ (HS.out _ BX4.out) (fun hHeld => ?_)
              clear hK K hHeld
              try simp only [Act.put, List.setIfInBounds_toArray, List.set_cons_zero, List.set_cons_succ]
              refine wpAnyH_ready (rs := [6]) (by kernel_rfl) (by simp) ?_
              refine AllReadyH.cons rfl (fun K hK => ?_) AllReadyH.nil
              obtain ⟨z0, z1, z2, f0, f1, f2⟩ := TB7_4.out.every
              go_simp
              have nb : b8 ≠ b7 := by first | exact NE.out | exact NE.out.symm
              have bn := TB7_4.out.but (.bool xn) (.slice xa xL xc) (.slice xp xl xk)
              have TB7_5 := hide (TB7_4.out.put (.bool xn) (.slice xa xL xc) (.slice xp xl xk))
              have TB8_5 : Hid (Thr (put3 x4 b7 (.bool xn) (.slice xa xL xc) (.slice xp xl xk)) b8 _ _ _ _) := (put3_other nb (.bool xn) (.slice xa xL xc) (.slice xp xl xk)).trans TB8_4.out
              have BX5 := hide (put3_below BX4.out LB7.out (.bool xn) (.slice xa xL xc) (.slice xp xl xk))
              have HT1_5 := hide (HT1_4.out.but bn)
              have HT3_5 := hide (HT3_4.out.but bn)
              clear z0 z1 z2 f0 f1 f2 nb bn
              refine hK.out _ (put3 x4 b7 (.bool xn) (.slice xa xL xc) (.slice xp xl xk)) (HS.out _ BX5.out) (fun hHeld => ?_)
              clear hK K hHeld
              generalize put3 x4 b7 (.bool xn) (.slice xa xL xc) (.slice xp xl xk) = x5 at *
              try simp only [Act.put, List.setIfInBounds_toArray, List.set_cons_zero, List.set_cons_succ]
              refine wpAnyH_ready (rs := [7]) (by kernel_rfl) (by simp) ?_
              refine AllReadyH.cons rfl (fun K hK => ?_) AllReadyH.nil
              obtain ⟨z0, z1, z2, f0, f1, f2⟩ := TB8_5.out.every
              go_simp
              have nb : b7 ≠ b8 := by first | exact NE.out | exact NE.out.symm
              have bn := TB8_5.out.but (.bool yn) (.slice ya yL yc) (.slice yp yl yk)
              have TB8_6 := hide (TB8_5.out.put (.bool yn) (.slice ya yL yc) (.slice yp yl yk))
              have TB7_6 : Hid (Thr (put3 x5 b8 (.bool yn) (.slice ya yL yc) (.slice yp yl yk)) b7 _ _ _ _) := (put3_other nb (.bool yn) (.slice ya yL yc) (.slice yp yl yk)).trans TB7_5.out
              have BX6 := hide (put3_below BX5.out LB8.out (.bool yn) (.slice ya yL yc) (.slice yp yl yk))
              have HT1_6 := hide (HT1_5.out.but bn)
              have HT3_6 := hide (HT3_5.out.but bn)
              clear z0 z1 z2 f0 f1 f2 nb bn
              refine hK.out _ (put3 x5 b8 (.bool yn) (.slice ya yL yc) (.slice yp yl yk)) (HS.out _ BX6.out) (fun hHeld => ?_)
              clear hK K hHeld
              generalize put3 x5 b8 (.bool yn) (.slice ya yL yc) (.slice yp yl yk) = x6 at *
              try simp only [Act.put, List.setIfInBounds_toArray, List.set_cons_zero, List.set_cons_succ]
              refine wpAnyH_done (by kernel_rfl) ?_ _
              go_wp2_with fail
              go_meet
              exact ⟨b7, b8, xn, xa, xL, xc, xp, xl, xk, M1, yn, ya, yL, yc, yp, yl, yk, M3, rfl, rfl, TB7_6.out, TB8_6.out, HT1_6.out, HT3_6.out, HC1.out, HC3.out, BX6.out⟩
          · go_simp
            have tn := Thr.new x1 (.bool false) (.slice none 0 0) (.slice none 0 0) 35
            have hb := bel x1 (.cells #[.bool false, .slice none 0 0, .slice none 0 0] 35)
            have BX2 := hide (bafter BX1.out hb (Nat.le_refl _))
            have LB8 : Hid (w3.heap.size ≤ x1.heap.size) := BX1.out.size
            have TB8_2 := hide tn
            have HT1_2 := hide (HT1_1.out.below hb)
            clear tn hb
            generalize x1.heap.size = b8 at *
            generalize x1.alloc (.cells #[.bool false, .slice none 0 0, .slice none 0 0] 35) = x2 at *
            refine hK.out _ _ (HS.out _ BX2.out) (fun hHeld => ?_)
            clear hK K hHeld
            try simp only [Act.put, List.setIfInBounds_toArray, List.set_cons_zero, List.set_cons_succ]
            refine wpAnyH_ready (rs := [3, 4]) (by kernel_rfl) (by simp) ?_
            refine AllReadyH.cons rfl (fun K hK => ?_) (AllReadyH.cons rfl (fun K hK => ?_) AllReadyH.nil)
            · go_simp
              refine (HBP.out.of (bafter HW3.out BX2.out (Nat.le_refl _))).mono ?_
              rintro e x3 ⟨vv, M3, rfl, ht, hc, hb⟩
              obtain ⟨yn, ya, yL, yc, yp, yl, yk, rfl⟩ := ht.form
              have BX3 : Hid (Below w3.heap.size w3 x3) := bafter BX2.out hb (Nat.le_refl _)
              have HT3_3 := hide ht
              have HC3 := hide hc
              have HT1_3 := hide (HT1_2.out.below hb)
              have TB8_3 := hide (TB8_2.out.keep hb)
              clear ht hc hb
              go_wp2_with fail
              refine hK.out _ _ (HS.out _ BX3.out) (fun hHeld => ?_)
              clear hK K hHeld
              try simp only [Act.put, List.setIfInBounds_toArray, List.set_cons_zero, List.set_cons_succ]
              refine wpAnyH_ready (rs := [4]) (by kernel_rfl) (by simp) ?_
              refine AllReadyH.cons rfl (fun K hK => ?_) AllReadyH.nil
              go_simp
              have tn := Thr.new x3 (.bool false) (.slice none 0 0) (.slice none 0 0) 35
              have hb := bel x3 (.cells #[.bool false, .slice none 0 0, .slice none 0 0] 35)
              have BX4 := hide (bafter BX3.out hb (Nat.le_refl _))
              have LB7 : Hid (w3.heap.size ≤ x3.heap.size) := BX3.out.size
              have TB7_4 := hide tn
              have HT1_4 := hide (HT1_3.out.below hb)
              have HT3_4 := hide (HT3_3.out.below hb)
              have TB8_4 := hide (TB8_3.out.keep hb)
              have NE : Hid (b8 ≠ x3.heap.size) := Nat.ne_of_lt TB8_3.out.lt
              clear tn hb
              generalize x3.heap.size = b7 at *
              generalize x3.alloc (.cells #[.bool false, .slice none 0 0, .slice none 0 0] 35) = x4 at *
              refine hK.out _ _ (HS.out _ BX4.out) (fun hHeld => ?_)
              clear hK K hHeld
              try simp only [Act.put, List.setIfInBounds_toArray, List.set_cons_zero, List.set_cons_succ]
              refine wpAnyH_ready (rs := [6]) (by kernel_rfl) (by simp) ?_
              refine AllReadyH.cons rfl (fun K hK => ?_) AllReadyH.nil
              obtain ⟨z0, z1, z2, f0, f1, f2⟩ := TB7_4.out.every
              go_simp
              have nb : b8 ≠ b7 := by first | exact NE.out | exact NE.out.symm
              have bn := TB7_4.out.but (.bool xn) (.slice xa xL xc) (.slice xp xl xk)
              have TB7_5 := hide (TB7_4.out.put (.bool xn) (.slice xa xL xc) (.slice xp xl xk))
              have TB8_5 : Hid (Thr (put3 x4 b7 (.bool xn) (.slice xa xL xc) (.slice xp xl xk)) b8 _ _ _ _) := (put3_other nb (.bool xn) (.slice xa xL xc) (.slice xp xl xk)).trans TB8_4.out
              have BX5 := hide (put3_below BX4.out LB7.out (.bool xn) (.slice xa xL xc) (.slice xp xl xk))
              have HT1_5 := hide (HT1_4.out.but bn)
              have HT3_5 := hide (HT3_4.out.but bn)
              clear z0 z1 z2 f0 f1 f2 nb bn
              refine hK.out _ (put3 x4 b7 (.bool xn) (.slice xa xL xc) (.slice xp xl xk)) (HS.out _ BX5.out) (fun hHeld => ?_)
              clear hK K hHeld
              generalize put3 x4 b7 (.bool xn) (.slice xa xL xc) (.slice xp xl xk) = x5 at *
              try simp only [Act.put, List.setIfInBounds_toArray, List.set_cons_zero, List.set_cons_succ]
              refine wpAnyH_ready (rs := [7]) (by kernel_rfl) (by simp) ?_
              refine AllReadyH.cons rfl (fun K hK => ?_) AllReadyH.nil
              obtain ⟨z0, z1, z2, f0, f1, f2⟩ := TB8_5.out.every
              go_simp
              have nb : b7 ≠ b8 := by first | exact NE.out | exact NE.out.symm
              have bn := TB8_5.out.but (.bool yn) (.slice ya yL yc) (.slice yp yl yk)
              have TB8_6 := hide (TB8_5.out.put (.bool yn) (.slice ya yL yc) (.slice yp yl yk))
              have TB7_6 : Hid (Thr (put3 x5 b8 (.bool yn) (.slice ya yL yc) (.slice yp yl yk)) b7 _ _ _ _) := (put3_other nb (.bool yn) (.slice ya yL yc) (.slice yp yl yk)).trans TB7_5.out
              have BX6 := hide (put3_below BX5.out LB8.out (.bool yn) (.slice ya yL yc) (.slice yp yl yk))
              have HT1_6 := hide (HT1_5.out.but bn)
              have HT3_6 := hide (HT3_5.out.but bn)
              clear z0 z1 z2 f0 f1 f2 nb bn
              refine hK.out _ (put3 x5 b8 (.bool yn) (.slice ya yL yc) (.slice yp yl yk)) (HS.out _ BX6.out) (fun hHeld => ?_)
              clear hK K hHeld
              generalize put3 x5 b8 (.bool yn) (.slice ya yL yc) (.slice yp yl yk) = x6 at *
              try simp only [Act.put, List.setIfInBounds_toArray, List.set_cons_zero, List.set_cons_succ]
              refine wpAnyH_done (by kernel_rfl) ?_ _
              go_wp2_with fail
              go_meet
              exact ⟨b7, b8, xn, xa, xL, xc, xp, xl, xk, M1, yn, ya, yL, yc, yp, yl, yk, M3, rfl, rfl, TB7_6.out, TB8_6.out, HT1_6.out, HT3_6.out, HC1.out, HC3.out, BX6.out⟩
            · go_simp
              have tn := Thr.new x2 (.bool false) (.slice none 0 0) (.slice none 0 0) 35
              have hb := bel x2 (.cells #[.bool false, .slice none 0 0, .slice none 0 0] 35)
              have BX3 := hide (bafter BX2.out hb (Nat.le_refl _))
              have LB7 : Hid (w3.heap.size ≤ x2.heap.size) := BX2.out.size
              have TB7_3 := hide tn
              have HT1_3 := hide (HT1_2.out.below hb)
              have TB8_3 := hide (TB8_2.out.keep hb)
              have NE : Hid (b8 ≠ x2.heap.size) := Nat.ne_of_lt TB8_2.out.lt
              clear tn hb
              generalize x2.heap.size = b7 at *
              generalize x2.alloc (.cells #[.bool false, .slice none 0 0, .slice none 0 0] 35) = x3 at *
              refine hK.out _ _ (HS.out _ BX3.out) (fun hHeld => ?_)
              clear hK K hHeld
              try simp only [Act.put, List.setIfInBounds_toArray, List.set_cons_zero, List.set_cons_succ]
              refine wpAnyH_ready (rs := [3]) (by kernel_rfl) (by simp) ?_
              refine AllReadyH.cons rfl (fun K hK => ?_) AllReadyH.nil
              go_simp
              refine (HBP.out.of (bafter HW3.out BX3.out (Nat.le_refl _))).mono ?_
              rintro e x4 ⟨vv, M3, rfl, ht, hc, hb⟩
              obtain ⟨yn, ya, yL, yc, yp, yl, yk, rfl⟩ := ht.form
              have BX4 : Hid (Below w3.heap.size w3 x4) := bafter BX3.out hb (Nat.le_refl _)
              have HT3_4 := hide ht
              have HC3 := hide hc
              have HT1_4 := hide (HT1_3.out.below hb)
              have TB7_4 := hide (TB7_3.out.keep hb)
              have TB8_4 := hide (TB8_3.out.keep hb)
              clear ht hc hb
              go_wp2_with fail
              refine hK.out _ _ (HS.out _ BX4.out) (fun hHeld => ?_)
              clear hK K hHeld
              try simp only [Act.put, List.setIfInBounds_toArray, List.set_cons_zero, List.set_cons_succ]
              refine wpAnyH_ready (rs := [6]) (by kernel_rfl) (by simp) ?_
              refine AllReadyH.cons rfl (fun K hK => ?_) AllReadyH.nil
              obtain ⟨z0, z1, z2, f0, f1, f2⟩ := TB7_4.out.every
              go_simp
              have nb : b8 ≠ b7 := by first | exact NE.out | exact NE.out.symm
              have bn := TB7_4.out.but (.bool xn) (.slice xa xL xc) (.slice xp xl xk)
              have TB7_5 := hide (TB7_4.out.put (.bool xn) (.slice xa xL xc) (.slice xp xl xk))
              have TB8_5 : Hid (Thr (put3 x4 b7 (.bool xn) (.slice xa xL xc) (.slice xp xl xk)) b8 _ _ _ _) := (put3_other nb (.bool xn) (.slice xa xL xc) (.slice xp xl xk)).trans TB8_4.out
              have BX5 := hide (put3_below BX4.out LB7.out (.bool xn) (.slice xa xL xc) (.slice xp xl xk))
              have HT1_5 := hide (HT1_4.out.but bn)
              have HT3_5 := hide (HT3_4.out.but bn)
              clear z0 z1 z2 f0 f1 f2 nb bn
              refine hK.out _ (put3 x4 b7 (.bool xn) (.slice xa xL xc) (.slice xp xl xk)) (HS.out _ BX5.out) (fun hHeld => ?_)
              clear hK K hHeld
              generalize put3 x4 b7 (.bool xn) (.slice xa xL xc) (.slice xp xl xk) = x5 at *
              try simp only [Act.put, List.setIfInBounds_toArray, List.set_cons_zero, List.set_cons_succ]
              refine wpAnyH_ready (rs := [7]) (by kernel_rfl) (by simp) ?_
              refine AllReadyH.cons rfl (fun K hK => ?_) AllReadyH.nil
              obtain ⟨z0, z1, z2, f0, f1, f2⟩ := TB8_5.out.every
              go_simp
              have nb : b7 ≠ b8 := by first | exact NE.out | exact NE.out.symm
              have bn := TB8_5.out.but (.bool yn) (.slice ya yL yc) (.slice yp yl yk)
              have TB8_6 := hide (TB8_5.out.put (.bool yn) (.slice ya yL yc) (.slice yp yl yk))
              have TB7_6 : Hid (Thr (put3 x5 b8 (.bool yn) (.slice ya yL yc) (.slice yp yl yk)) b7 _ _ _ _) := (put3_other nb (.bool yn) (.slice ya yL yc) (.slice yp yl yk)).trans TB7_5.out
              have BX6 := hide (put3_below BX5.out LB8.out (.bool yn) (.slice ya yL yc) (.slice yp yl yk))
              have HT1_6 := hide (HT1_5.out.but bn)
              have HT3_6 := hide (HT3_5.out.but bn)
              clear z0 z1 z2 f0 f1 f2 nb bn
              refine hK.out _ (put3 x5 b8 (.bool yn) (.slice ya yL yc) (.slice yp yl yk)) (HS.out _ BX6.out) (fun hHeld => ?_)
              clear hK K hHeld
              generalize put3 x5 b8 (.bool yn) (.slice ya yL yc) (.slice yp yl yk) = x6 at *
              try simp only [Act.put, List.setIfInBounds_toArray, List.set_cons_zero, List.set_cons_succ]
              refine wpAnyH_done (by kernel_rfl) ?_ _
              go_wp2_with fail
              go_meet
              exact ⟨b7, b8, xn, xa, xL, xc, xp, xl, xk, M1, yn, ya, yL, yc, yp, yl, yk, M3, rfl, rfl, TB7_6.out, TB8_6.out, HT1_6.out, HT3_6.out, HC1.out, HC3.out, BX6.out⟩
        · go_simp
          have tn := Thr.new wd (.bool false) (.slice none 0 0) (.slice none 0 0) 35
          have hb := bel wd (.cells #[.bool false, .slice none 0 0, .slice none 0 0] 35)
          have BX1 := hide (bafter BX0.out hb (Nat.le_refl _))
          have LB7 : Hid (w3.heap.size ≤ wd.heap.size) := BX0.out.size
          have TB7_1 := hide tn
          clear tn hb
          generalize wd.heap.size = b7 at *
          generalize wd.alloc (.cells #[.bool false, .slice none 0 0, .slice none 0 0] 35) = x1 at *
          refine hK.out _ _ (HS.out _ BX1.out) (fun hHeld => ?_)
          clear hK K hHeld
          try simp only [Act.put, List.setIfInBounds_toArray, List.set_cons_zero, List.set_cons_succ]
          refine wpAnyH_ready (rs := [1, 5]) (by kernel_rfl) (by simp) ?_
          refine AllReadyH.cons rfl (fun K hK => ?_) (AllReadyH.cons rfl (fun K hK => ?_) AllReadyH.nil)
          · go_simp
            refine (HBO.out.of (bafter HW3.out BX1.out (Nat.le_refl _))).mono ?_
            rintro e x2 ⟨vv, M1, rfl, ht, hc, hb⟩
            obtain ⟨xn, xa, xL, xc, xp, xl, xk, rfl⟩ := ht.form
            have BX2 : Hid (Below w3.heap.size w3 x2) := bafter BX1.out hb (Nat.le_refl _)
            have HT1_2 := hide ht
            have HC1 := hide hc
            have TB7_2 := hide (TB7_1.out.keep hb)
            clear ht hc hb
            go_wp2_with fail
            refine hK.out _ _ (HS.out _ BX2.out) (fun hHeld => ?_)
            clear hK K hHeld
            try simp only [Act.put, List.setIfInBounds_toArray, List.set_cons_zero, List.set_cons_succ]
            refine wpAnyH_ready (rs := [3, 5]) (by kernel_rfl) (by simp) ?_
            refine AllReadyH.cons rfl (fun K hK => ?_) (AllReadyH.cons rfl (fun K hK => ?_) AllReadyH.nil)
            · go_simp
              refine (HBP.out.of (bafter HW3.out BX2.out (Nat.le_refl _))).mono ?_
              rintro e x3 ⟨vv, M3, rfl, ht, hc, hb⟩
              obtain ⟨yn, ya, yL, yc, yp, yl, yk, rfl⟩ := ht.form
              have BX3 : Hid (Below w3.heap.size w3 x3) := bafter BX2.out hb (Nat.le_refl _)
              have HT3_3 := hide ht
              have HC3 := hide hc
              have HT1_3 := hide (HT1_2.out.below hb)
              have TB7_3 := hide (TB7_2.out.keep hb)
              clear ht hc hb
              go_wp2_with fail
              refine hK.out _ _ (HS.out _ BX3.out) (fun hHeld => ?_)
              clear hK K hHeld
              try simp only [Act.put, List.setIfInBounds_toArray, List.set_cons_zero, List.set_cons_succ]
              refine wpAnyH_ready (rs := [5]) (by kernel_rfl) (by simp) ?_
              refine AllReadyH.cons rfl (fun K hK => ?_) AllReadyH.nil
              go_simp
              have tn := Thr.new x3 (.bool false) (.slice none 0 0) (.slice none 0 0) 35
              have hb := bel x3 (.cells #[.bool false, .slice none 0 0, .slice none 0 0] 35)
              have BX4 := hide (bafter BX3.out hb (Nat.le_refl _))
              have LB8 : Hid (w3.heap.size ≤ x3.heap.size) := BX3.out.size
              have TB8_4 := hide tn
              have HT1_4 := hide (HT1_3.out.below hb)
              have HT3_4 := hide (HT3_3.out.below hb)
              have TB7_4 := hide (TB7_3.out.keep hb)
              have NE : Hid (b7 ≠ x3.heap.size) := Nat.ne_of_lt TB7_3.out.lt
              clear tn hb
              generalize x3.heap.size = b8 at *
              generalize x3.alloc (.cells #[.bool false, .slice none 0 0, .slice none 0 0] 35) = x4 at *
              refine hK.out _ _ (HS.out _ BX4.out) (fun hHeld => ?_)
              clear hK K hHeld
              try simp only [Act.put, List.setIfInBounds_toArray, List.set_cons_zero, List.set_cons_succ]
              refine wpAnyH_ready (rs := [6]) (by kernel_rfl) (by simp) ?_
              refine AllReadyH.cons rfl (fun K hK => ?_) AllReadyH.nil
              obtain ⟨z0, z1, z2, f0, f1, f2⟩ := TB7_4.out.every
              go_simp
              have nb : b8 ≠ b7 := by first | exact NE.out | exact NE.out.symm
              have bn := TB7_4.out.but (.bool xn) (.slice xa xL xc) (.slice xp xl xk)
              have TB7_5 := hide (TB7_4.out.put (.bool xn) (.slice xa xL xc) (.slice xp xl xk))
              have TB8_5 : Hid (Thr (put3 x4 b7 (.bool xn) (.slice xa xL xc) (.slice xp xl xk)) b8 _ _ _ _) := (put3_other nb (.bool xn) (.slice xa xL xc) (.slice xp xl xk)).trans TB8_4.out
              have BX5 := hide (put3_below BX4.out LB7.out (.bool xn) (.slice xa xL xc) (.slice xp xl xk))
              have HT1_5 := hide (HT1_4.out.but bn)
              have HT3_5 := hide (HT3_4.out.but bn)
              clear z0 z1 z2 f0 f1 f2 nb bn
              refine hK.out _ (put3 x4 b7 (.bool xn) (.slice xa xL xc) (.slice xp xl xk)) (HS.out _ BX5.out) (fun hHeld => ?_)
              clear hK K hHeld
              generalize put3 x4 b7 (.bool xn) (.slice xa xL xc) (.slice xp xl xk) = x5 at *
              try simp only [Act.put, List.setIfInBounds_toArray, List.set_cons_zero, List.set_cons_succ]
              refine wpAnyH_ready (rs := [7]) (by kernel_rfl) (by simp) ?_
              refine AllReadyH.cons rfl (fun K hK => ?_) AllReadyH.nil
              obtain ⟨z0, z1, z2, f0, f1, f2⟩ := TB8_5.out.every
              go_simp
              have nb : b7 ≠ b8 := by first | exact NE.out | exact NE.out.symm
              have bn := TB8_5.out.but (.bool yn) (.slice ya yL yc) (.slice yp yl yk)
              have TB8_6 := hide (TB8_5.out.put (.bool yn) (.slice ya yL yc) (.slice yp yl yk))
              have TB7_6 : Hid (Thr (put3 x5 b8 (.bool yn) (.slice ya yL yc) (.slice yp yl yk)) b7 _ _ _ _) := (put3_other nb (.bool yn) (.slice ya yL yc) (.slice yp yl yk)).trans TB7_5.out
              have BX6 := hide (put3_below BX5.out LB8.out (.bool yn) (.slice ya yL yc) (.slice yp yl yk))
              have HT1_6 := hide (HT1_5.out.but bn)
              have HT3_6 := hide (HT3_5.out.but bn)
              clear z0 z1 z2 f0 f1 f2 nb bn
              refine hK.out _ (put3 x5 b8 (.bool yn) (.slice ya yL yc) (.slice yp yl yk)) (HS.out _ BX6.out) (fun hHeld => ?_)
              clear hK K hHeld
              generalize put3 x5 b8 (.bool yn) (.slice ya yL yc) (.slice yp yl yk) = x6 at *
              try simp only [Act.put, List.setIfInBounds_toArray, List.set_cons_zero, List.set_cons_succ]
              refine wpAnyH_done (by kernel_rfl) ?_ _
              go_wp2_with fail
              go_meet
              exact ⟨b7, b8, xn, xa, xL, xc, xp, xl, xk, M1, yn, ya, yL, yc, yp, yl, yk, M3, rfl, rfl, TB7_6.out, TB8_6.out, HT1_6.out, HT3_6.out, HC1.out, HC3.out, BX6.out⟩
            · go_simp
              have tn := Thr.new x2 (.bool false) (.slice none 0 0) (.slice none 0 0) 35
              have hb := bel x2 (.cells #[.bool false, .slice none 0 0, .slice none 0 0] 35)
              have BX3 := hide (bafter BX2.out hb (Nat.le_refl _))
              have LB8 : Hid (w3.heap.size ≤ x2.heap.size) := BX2.out.size
              have TB8_3 := hide tn
              have HT1_3 := hide (HT1_2.out.below hb)
              have TB7_3 := hide (TB7_2.out.keep hb)
              have NE : Hid (b7 ≠ x2.heap.size) := Nat.ne_of_lt TB7_2.out.lt
              clear tn hb
              generalize x2.heap.size = b8 at *
              generalize x2.alloc (.cells #[.bool false, .slice none 0 0, .slice none 0 0] 35) = x3 at *
              refine hK.out _ _ (HS.out _ BX3.out) (fun hHeld => ?_)
              clear hK K hHeld
              try simp only [Act.put, List.setIfInBounds_toArray, List.set_cons_zero, List.set_cons_succ]
              refine wpAnyH_ready (rs := [3]) (by kernel_rfl) (by simp) ?_
              refine AllReadyH.cons rfl (fun K hK => ?_) AllReadyH.nil
              go_simp
              refine (HBP.out.of (bafter HW3.out BX3.out (Nat.le_refl _))).mono ?_
              rintro e x4 ⟨vv, M3, rfl, ht, hc, hb⟩
              obtain ⟨yn, ya, yL, yc, yp, yl, yk, rfl⟩ := ht.form
              have BX4 : Hid (Below w3.heap.size w3 x4) := bafter BX3.out hb (Nat.le_refl _)
              have HT3_4 := hide ht
              have HC3 := hide hc
              have HT1_4 := hide (HT1_3.out.below hb)
              have TB7_4 := hide (TB7_3.out.keep hb)
              have TB8_4 := hide (TB8_3.out.keep hb)
              clear ht hc hb
              go_wp2_with fail
              refine hK.out _ _ (HS.out _ BX4.out) (fun hHeld => ?_)
              clear hK K hHeld
              try simp only [Act.put, List.setIfInBounds_toArray, List.set_cons_zero, List.set_cons_succ]
              refine wpAnyH_ready (rs := [6]) (by kernel_rfl) (by simp) ?_
              refine AllReadyH.cons rfl (fun K hK => ?_) AllReadyH.nil
              obtain ⟨z0, z1, z2, f0, f1, f2⟩ := TB7_4.out.every
              go_simp
              have nb : b8 ≠ b7 := by first | exact NE.out | exact NE.out.symm
              have bn := TB7_4.out.but (.bool xn) (.slice xa xL xc) (.slice xp xl xk)
              have TB7_5 := hide (TB7_4.out.put (.bool xn) (.slice xa xL xc) (.slice xp xl xk))
              have TB8_5 : Hid (Thr (put3 x4 b7 (.bool xn) (.slice xa xL xc) (.slice xp xl xk)) b8 _ _ _ _) := (put3_other nb (.bool xn) (.slice xa xL xc) (.slice xp xl xk)).trans TB8_4.out
              have BX5 := hide (put3_below BX4.out LB7.out (.bool xn) (.slice xa xL xc) (.slice xp xl xk))
              have HT1_5 := hide (HT1_4.out.but bn)
              have HT3_5 := hide (HT3_4.out.but bn)
              clear z0 z1 z2 f0 f1 f2 nb bn
              refine hK.out _ (put3 x4 b7 (.bool xn) (.slice xa xL xc) (.slice xp xl xk)) (HS.out _ BX5.out) (fun hHeld => ?_)
              clear hK K hHeld
              generalize put3 x4 b7 (.bool xn) (.slice xa xL xc) (.slice xp xl xk) = x5 at *
              try simp only [Act.put, List.setIfInBounds_toArray, List.set_cons_zero, List.set_cons_succ]
              refine wpAnyH_ready (rs := [7]) (by kernel_rfl) (by simp) ?_
              refine AllReadyH.cons rfl (fun K hK => ?_) AllReadyH.nil
              obtain ⟨z0, z1, z2, f0, f1, f2⟩ := TB8_5.out.every
              go_simp
              have nb : b7 ≠ b8 := by first | exact NE.out | exact NE.out.symm
              have bn := TB8_5.out.but (.bool yn) (.slice ya yL yc) (.slice yp yl yk)
              have TB8_6 := hide (TB8_5.out.put (.bool yn) (.slice ya yL yc) (.slice yp yl yk))
              have TB7_6 : Hid (Thr (put3 x5 b8 (.bool yn) (.slice ya yL yc) (.slice yp yl yk)) b7 _ _ _ _) := (put3_other nb (.bool yn) (.slice ya yL yc) (.slice yp yl yk)).trans TB7_5.out
              have BX6 := hide (put3_below BX5.out LB8.out (.bool yn) (.slice ya yL yc) (.slice yp yl yk))
              have HT1_6 := hide (HT1_5.out.but bn)
              have HT3_6 := hide (HT3_5.out.but bn)
              clear z0 z1 z2 f0 f1 f2 nb bn
              refine hK.out _ (put3 x5 b8 (.bool yn) (.slice ya yL yc) (.slice yp yl yk)) (HS.out _ BX6.out) (fun hHeld => ?_)
              clear hK K hHeld
              generalize put3 x5 b8 (.bool yn) (.slice ya yL yc) (.slice yp yl yk) = x6 at *
              try simp only [Act.put, List.setIfInBounds_toArray, List.set_cons_zero, List.set_cons_succ]
              refine wpAnyH_done (by kernel_rfl) ?_ _
              go_wp2_with fail
              go_meet
              exact ⟨b7, b8, xn, xa, xL, xc, xp, xl, xk, M1, yn, ya, yL, yc, yp, yl, yk, M3, rfl, rfl, TB7_6.out, TB8_6.out, HT1_6.out, HT3_6.out, HC1.out, HC3.out, BX6.out⟩
          · go_simp
            have tn := Thr.new x1 (.bool false) (.slice none 0 0) (.slice none 0 0) 35
            have hb := bel x1 (.cells #[.bool false, .slice none 0 0, .slice none 0 0] 35)
            have BX2 := hide (bafter BX1.out hb (Nat.le_refl _))
            have LB8 : Hid (w3.heap.size ≤ x1.heap.size) := BX1.out.size
            have TB8_2 := hide tn
            have TB7_2 := hide (TB7_1.out.keep hb)
            have NE : Hid (b7 ≠ x1.heap.size) := Nat.ne_of_lt TB7_1.out.lt
            clear tn hb
            generalize x1.heap.size = b8 at *
            generalize x1.alloc (.cells #[.bool false, .slice none 0 0, .slice none 0 0] 35) = x2 at *
            refine hK.out _ _ (HS.out _ BX2.out) (fun hHeld => ?_)
            clear hK K hHeld
            try simp only [Act.put, List.setIfInBounds_toArray, List.set_cons_zero, List.set_cons_succ]
            refine wpAnyH_ready (rs := [1]) (by kernel_rfl) (by simp) ?_
            refine AllReadyH.cons rfl (fun K hK => ?_) AllReadyH.nil
            go_simp
            refine (HBO.out.of (bafter HW3.out BX2.out (Nat.le_refl _))).mono ?_
            rintro e x3 ⟨vv, M1, rfl, ht, hc, hb⟩
            obtain ⟨xn, xa, xL, xc, xp, xl, xk, rfl⟩ := ht.form
            have BX3 : Hid (Below w3.heap.size w3 x3) := bafter BX2.out hb (Nat.le_refl _)
            have HT1_3 := hide ht
            have HC1 := hide hc
            have TB7_3 := hide (TB7_2.out.keep hb)
            have TB8_3 := hide (TB8_2.out.keep hb)
            clear ht hc hb
            go_wp2_with fail
            refine hK.out _ _ (HS.out _ BX3.out) (fun hHeld => ?_)
            clear hK K hHeld
            try simp only [Act.put, List.setIfInBounds_toArray, List.set_cons_zero, List.set_cons_succ]
            refine wpAnyH_ready (rs := [3]) (by kernel_rfl) (by simp) ?_
            refine AllReadyH.cons rfl (fun K hK => ?_) AllReadyH.nil
            go_simp
            refine (HBP.out.of (bafter HW3.out BX3.out (Nat.le_refl _))).mono ?_
            rintro e x4 ⟨vv, M3, rfl, ht, hc, hb⟩
            obtain ⟨yn, ya, yL, yc, yp, yl, yk, rfl⟩ := ht.form
            have BX4 : Hid (Below w3.heap.size w3 x4) := bafter BX3.out hb (Nat.le_refl _)
            have HT3_4 := hide ht
            have HC3 := hide hc
            have HT1_4 := hide (HT1_3.out.below hb)
            have TB7_4 := hide (TB7_3.out.keep hb)
            have TB8_4 := hide (TB8_3.out.keep hb)
            clear ht hc hb
            go_wp2_with fail
            refine hK.out _ _ (HS.out _ BX4.out) (fun hHeld => ?_)
            clear hK K hHeld
            try simp only [Act.put, List.setIfInBounds_toArray, List.set_cons_zero, List.set_cons_succ]
            refine wpAnyH_ready (rs := [6]) (by kernel_rfl) (by simp) ?_
            refine AllReadyH.cons rfl (fun K hK => ?_) AllReadyH.nil
            obtain ⟨z0, z1, z2, f0, f1, f2⟩ := TB7_4.out.every
            go_simp
            have nb : b8 ≠ b7 := by first | exact NE.out | exact NE.out.symm
            have bn := TB7_4.out.but (.bool xn) (.slice xa xL xc) (.slice xp xl xk)
            have TB7_5 := hide (TB7_4.out.put (.bool xn) (.slice xa xL xc) (.slice xp xl xk))
            have TB8_5 : Hid (Thr (put3 x4 b7 (.bool xn) (.slice xa xL xc) (.slice xp xl xk)) b8 _ _ _ _) := (put3_other nb (.bool xn) (.slice xa xL xc) (.slice xp xl xk)).trans TB8_4.out
            have BX5 := hide (put3_below BX4.out LB7.out (.bool xn) (.slice xa xL xc) (.slice xp xl xk))
            have HT1_5 := hide (HT1_4.out.but bn)
            have HT3_5 := hide (HT3_4.out.but bn)
            clear z0 z1 z2 f0 f1 f2 nb bn
            refine hK.out _ (put3 x4 b7 (.bool xn) (.slice xa xL xc) (.slice xp xl xk)) (HS.out _ BX5.out) (fun hHeld => ?_)
            clear hK K hHeld
            generalize put3 x4 b7 (.bool xn) (.slice xa xL xc) (.slice xp xl xk) = x5 at *
            try simp only [Act.put, List.setIfInBounds_toArray, List.set_cons_zero, List.set_cons_succ]
            refine wpAnyH_ready (rs := [7]) (by kernel_rfl) (by simp) ?_
            refine AllReadyH.cons rfl (fun K hK => ?_) AllReadyH.nil
            obtain ⟨z0, z1, z2, f0, f1, f2⟩ := TB8_5.out.every
            go_simp
            have nb : b7 ≠ b8 := by first | exact NE.out | exact NE.out.symm
            have bn := TB8_5.out.but (.bool yn) (.slice ya yL yc) (.slice yp yl yk)
            have TB8_6 := hide (TB8_5.out.put (.bool yn) (.slice ya yL yc) (.slice yp yl yk))
            have TB7_6 : Hid (Thr (put3 x5 b8 (.bool yn) (.slice ya yL yc) (.slice yp yl yk)) b7 _ _ _ _) := (put3_other nb (.bool yn) (.slice ya yL yc) (.slice yp yl yk)).trans TB7_5.out
            have BX6 := hide (put3_below BX5.out LB8.out (.bool yn) (.slice ya yL yc) (.slice yp yl yk))
            have HT1_6 := hide (HT1_5.out.but bn)
            have HT3_6 := hide (HT3_5.out.but bn)
            clear z0 z1 z2 f0 f1 f2 nb bn
            refine hK.out _ (put3 x5 b8 (.bool yn) (.slice ya yL yc) (.slice yp yl yk)) (HS.out _ BX6.out) (fun hHeld => ?_)
            clear hK K hHeld
            generalize put3 x5 b8 (.bool yn) (.slice ya yL yc) (.slice yp yl yk) = x6 at *
            try simp only [Act.put, List.setIfInBounds_toArray, List.set_cons_zero, List.set_cons_succ]
            refine wpAnyH_done (by kernel_rfl) ?_ _
            go_wp2_with fail
            go_meet
            exact ⟨b7, b8, xn, xa, xL, xc, xp, xl, xk, M1, yn, ya, yL, yc, yp, yl, yk, M3, rfl, rfl, TB7_6.out, TB8_6.out, HT1_6.out, HT3_6.out, HC1.out, HC3.out, BX6.out⟩
        · go_simp
          have tn := Thr.new wd (.bool false) (.slice none 0 0) (.slice none 0 0) 35
          have hb := bel wd (.cells #[.bool false, .slice none 0 0, .slice none 0 0] 35)
          have BX1 := hide (bafter BX0.out hb (Nat.le_refl _))
          have LB8 : Hid (w3.heap.size ≤ wd.heap.size) := BX0.out.size
          have TB8_1 := hide tn
          clear tn hb
          generalize wd.heap.size = b8 at *
          generalize wd.alloc (.cells #[.bool false, .slice none 0 0, .slice none 0 0] 35) = x1 at *
          refine hK.out _ _ (HS.out _ BX1.out) (fun hHeld => ?_)
          clear hK K hHeld
          try simp only [Act.put, List.setIfInBounds_toArray, List.set_cons_zero, List.set_cons_succ]
          refine wpAnyH_ready (rs := [1, 4]) (by kernel_rfl) (by simp) ?_
          refine AllReadyH.cons rfl (fun K hK => ?_) (AllReadyH.cons rfl (fun K hK => ?_) AllReadyH.nil)
          · go_simp
            refine (HBO.out.of (bafter HW3.out BX1.out (Nat.le_refl _))).mono ?_
            rintro e x2 ⟨vv, M1, rfl, ht, hc, hb⟩
            obtain ⟨xn, xa, xL, xc, xp, xl, xk, rfl⟩ := ht.form
            have BX2 : Hid (Below w3.heap.size w3 x2) := bafter BX1.out hb (Nat.le_refl _)
            have HT1_2 := hide ht
            have HC1 := hide hc
            have TB8_2 := hide (TB8_1.out.keep hb)
            clear ht hc hb
            go_wp2_with fail
            refine hK.out _ _ (HS.out _ BX2.out) (fun hHeld => ?_)
            clear hK K hHeld
            try simp only [Act.put, List.setIfInBounds_toArray, List.set_cons_zero, List.set_cons_succ]
            refine wpAnyH_ready (rs := [3, 4]) (by kernel_rfl) (by simp) ?_
            refine AllReadyH.cons rfl (fun K hK => ?_) (AllReadyH.cons rfl (fun K hK => ?_) AllReadyH.nil)
            · go_simp
              refine (HBP.out.of (bafter HW3.out BX2.out (Nat.le_refl _))).mono ?_
              rintro e x3 ⟨vv, M3, rfl, ht, hc, hb⟩
              obtain ⟨yn, ya, yL, yc, yp, yl, yk, rfl⟩ := ht.form
              have BX3 : Hid (Below w3.heap.size w3 x3) := bafter BX2.out hb (Nat.le_refl _)
              have HT3_3 := hide ht
              have HC3 := hide hc
              have HT1_3 := hide (HT1_2.out.below hb)
              have TB8_3 := hide (TB8_2.out.keep hb)
              clear ht hc hb
              go_wp2_with fail
              refine hK.out _ _ (HS.out _ BX3.out) (fun hHeld => ?_)
              clear hK K hHeld
              try simp only [Act.put, List.setIfInBounds_toArray, List.set_cons_zero, List.set_cons_succ]
              refine wpAnyH_ready (rs := [4]) (by kernel_rfl) (by simp) ?_
              refine AllReadyH.cons rfl (fun K hK => ?_) AllReadyH.nil
              go_simp
              have tn := Thr.new x3 (.bool false) (.slice none 0 0) (.slice none 0 0) 35
              have hb := bel x3 (.cells #[.bool false, .slice none 0 0, .slice none 0 0] 35)
              have BX4 := hide (bafter BX3.out hb (Nat.le_refl _))
              have LB7 : Hid (w3.heap.size ≤ x3.heap.size) := BX3.out.size
              have TB7_4 := hide tn
              have HT1_4 := hide (HT1_3.out.below hb)
              have HT3_4 := hide (HT3_3.out.below hb)
              have TB8_4 := hide (TB8_3.out.keep hb)
              have NE : Hid (b8 ≠ x3.heap.size) := Nat.ne_of_lt TB8_3.out.lt
              clear tn hb
              generalize x3.heap.size = b7 at *
              generalize x3.alloc (.cells #[.bool false, .slice none 0 0, .slice none 0 0] 35) = x4 at *
              refine hK.out _ _ (HS.out _ BX4.out) (fun hHeld => ?_)
              clear hK K hHeld
              try simp only [Act.put, List.setIfInBounds_toArray, List.set_cons_zero, List.set_cons_succ]
              refine wpAnyH_ready (rs := [6]) (by kernel_rfl) (by simp) ?_
              refine AllReadyH.cons rfl (fun K hK => ?_) AllReadyH.nil
              obtain ⟨z0, z1, z2, f0, f1, f2⟩ := TB7_4.out.every
              go_simp
              have nb : b8 ≠ b7 := by first | exact NE.out | exact NE.out.symm
              have bn := TB7_4.out.but (.bool xn) (.slice xa xL xc) (.slice xp xl xk)
              have TB7_5 := hide (TB7_4.out.put (.bool xn) (.slice xa xL xc) (.slice xp xl xk))
              have TB8_5 : Hid (Thr (put3 x4 b7 (.bool xn) (.slice xa xL xc) (.slice xp xl xk)) b8 _ _ _ _) := (put3_other nb (.bool xn) (.slice xa xL xc) (.slice xp xl xk)).trans TB8_4.out
              have BX5 := hide (put3_below BX4.out LB7.out (.bool xn) (.slice xa xL xc) (.slice xp xl xk))
              have HT1_5 := hide (HT1_4.out.but bn)
              have HT3_5 := hide (HT3_4.out.but bn)
              clear z0 z1 z2 f0 f1 f2 nb bn
              refine hK.out _ (put3 x4 b7 (.bool xn) (.slice xa xL xc) (.slice xp xl xk)) (HS.out _ BX5.out) (fun hHeld => ?_)
              clear hK K hHeld
              generalize put3 x4 b7 (.bool xn) (.slice xa xL xc) (.slice xp xl xk) = x5 at *
              try simp only [Act.put, List.setIfInBounds_toArray, List.set_cons_zero, List.set_cons_succ]
              refine wpAnyH_ready (rs := [7]) (by kernel_rfl) (by simp) ?_
              refine AllReadyH.cons rfl (fun K hK => ?_) AllReadyH.nil
              obtain ⟨z0, z1, z2, f0, f1, f2⟩ := TB8_5.out.every
              go_simp
              have nb : b7 ≠ b8 := by first | exact NE.out | exact NE.out.symm
              have bn := TB8_5.out.but (.bool yn) (.slice ya yL yc) (.slice yp yl yk)
              have TB8_6 := hide (TB8_5.out.put (.bool yn) (.slice ya yL yc) (.slice yp yl yk))
              have TB7_6 : Hid (Thr (put3 x5 b8 (.bool yn) (.slice ya yL yc) (.slice yp yl yk)) b7 _ _ _ _) := (put3_other nb (.bool yn) (.slice ya yL yc) (.slice yp yl yk)).trans TB7_5.out
              have BX6 := hide (put3_below BX5.out LB8.out (.bool yn) (.slice ya yL yc) (.slice yp yl yk))
              have HT1_6 := hide (HT1_5.out.but bn)
              have HT3_6 := hide (HT3_5.out.but bn)
              clear z0 z1 z2 f0 f1 f2 nb bn
              refine hK.out _ (put3 x5 b8 (.bool yn) (.slice ya yL yc) (.slice yp yl yk)) (HS.out _ BX6.out) (fun hHeld => ?_)
              clear hK K hHeld
              generalize put3 x5 b8 (.bool yn) (.slice ya yL yc) (.slice yp yl yk) = x6 at *
              try simp only [Act.put, List.setIfInBounds_toArray, List.set_cons_zero, List.set_cons_succ]
              refine wpAnyH_done (by kernel_rfl) ?_ _
              go_wp2_with fail
              go_meet
              exact ⟨b7, b8, xn, xa, xL, xc, xp, xl, xk, M1, yn, ya, yL, yc, yp, yl, yk, M3, rfl, rfl, TB7_6.out, TB8_6.out, HT1_6.out, HT3_6.out, HC1.out, HC3.out, BX6.out⟩
            · go_simp
              have tn := Thr.new x2 (.bool false) (.slice none 0 0) (.slice none 0 0) 35
              have hb := bel x2 (.cells #[.bool false, .slice none 0 0, .slice none 0 0] 35)
              have BX3 := hide (bafter BX2.out hb (Nat.le_refl _))
              have LB7 : Hid (w3.heap.size ≤ x2.heap.size) := BX2.out.size
              have TB7_3 := hide tn
              have HT1_3 := hide (HT1_2.out.below hb)
              have TB8_3 := hide (TB8_2.out.keep hb)
              have NE : Hid (b8 ≠ x2.heap.size) := Nat.ne_of_lt TB8_2.out.lt
              clear tn hb
              generalize x2.heap.size = b7 at *
              generalize x2.alloc (.cells #[.bool false, .slice none 0 0, .slice none 0 0] 35) = x3 at *
              refine hK.out _ _ (HS.out _ BX3.out) (fun hHeld => ?_)
              clear hK K hHeld
              try simp only [Act.put, List.setIfInBounds_toArray, List.set_cons_zero, List.set_cons_succ]
              refine wpAnyH_ready (rs := [3]) (by kernel_rfl) (by simp) ?_
              refine AllReadyH.cons rfl (fun K hK => ?_) AllReadyH.nil
              go_simp
              refine (HBP.out.of (bafter HW3.out BX3.out (Nat.le_refl _))).mono ?_
              rintro e x4 ⟨vv, M3, rfl, ht, hc, hb⟩
              obtain ⟨yn, ya, yL, yc, yp, yl, yk, rfl⟩ := ht.form
              have BX4 : Hid (Below w3.heap.size w3 x4) := bafter BX3.out hb (Nat.le_refl _)
              have HT3_4 := hide ht
              have HC3 := hide hc
              have HT1_4 := hide (HT1_3.out.below hb)
              have TB7_4 := hide (TB7_3.out.keep hb)
              have TB8_4 := hide (TB8_3.out.keep hb)
              clear ht hc hb
              go_wp2_with fail
              refine hK.out _ _ (HS.out _ BX4.out) (fun hHeld => ?_)
              clear hK K hHeld
              try simp only [Act.put, List.setIfInBounds_toArray, List.set_cons_zero, List.set_cons_succ]
              refine wpAnyH_ready (rs := [6]) (by kernel_rfl) (by simp) ?_
              refine AllReadyH.cons rfl (fun K hK => ?_) AllReadyH.nil
              obtain ⟨z0, z1, z2, f0, f1, f2⟩ := TB7_4.out.every
              go_simp
              have nb : b8 ≠ b7 := by first | exact NE.out | exact NE.out.symm
              have bn := TB7_4.out.but (.bool xn) (.slice xa xL xc) (.slice xp xl xk)
              have TB7_5 := hide (TB7_4.out.put (.bool xn) (.slice xa xL xc) (.slice xp xl xk))
              have TB8_5 : Hid (Thr (put3 x4 b7 (.bool xn) (.slice xa xL xc) (.slice xp xl xk)) b8 _ _ _ _) := (put3_other nb (.bool xn) (.slice xa xL xc) (.slice xp xl xk)).trans TB8_4.out
              have BX5 := hide (put3_below BX4.out LB7.out (.bool xn) (.slice xa xL xc) (.slice xp xl xk))
              have HT1_5 := hide (HT1_4.out.but bn)
              have HT3_5 := hide (HT3_4.out.but bn)
              clear z0 z1 z2 f0 f1 f2 nb bn
              refine hK.out _ (put3 x4 b7 (.bool xn) (.slice xa xL xc) (.slice xp xl xk)) (HS.out _ BX5.out) (fun hHeld => ?_)
              clear hK K hHeld
              generalize put3 x4 b7 (.bool xn) (.slice xa xL xc) (.slice xp xl xk) = x5 at *
              try simp only [Act.put, List.setIfInBounds_toArray, List.set_cons_zero, List.set_cons_succ]
              refine wpAnyH_ready (rs := [7]) (by kernel_rfl) (by simp) ?_
              refine AllReadyH.cons rfl (fun K hK => ?_) AllReadyH.nil
              obtain ⟨z0, z1, z2, f0, f1, f2⟩ := TB8_5.out.every
              go_simp
              have nb : b7 ≠ b8 := by first | exact NE.out | exact NE.out.symm
              have bn := TB8_5.out.but (.bool yn) (.slice ya yL yc) (.slice yp yl yk)
              have TB8_6 := hide (TB8_5.out.put (.bool yn) (.slice ya yL yc) (.slice yp yl yk))
              have TB7_6 : Hid (Thr (put3 x5 b8 (.bool yn) (.slice ya yL yc) (.slice yp yl yk)) b7 _ _ _ _) := (put3_other nb (.bool yn) (.slice ya yL yc) (.slice yp yl yk)).trans TB7_5.out
              have BX6 := hide (put3_below BX5.out LB8.out (.bool yn) (.slice ya yL yc) (.slice yp yl yk))
              have HT1_6 := hide (HT1_5.out.but bn)
              have HT3_6 := hide (HT3_5.out.but bn)
              clear z0 z1 z2 f0 f1 f2 nb bn
              refine hK.out _ (put3 x5 b8 (.bool yn) (.slice ya yL yc) (.slice yp yl yk)) (HS.out _ BX6.out) (fun hHeld => ?_)
              clear hK K hHeld
              generalize put3 x5 b8 (.bool yn) (.slice ya yL yc) (.slice yp yl yk) = x6 at *
              try simp only [Act.put, List.setIfInBounds_toArray, List.set_cons_zero, List.set_cons_succ]
              refine wpAnyH_done (by kernel_rfl) ?_ _
              go_wp2_with fail
              go_meet
              exact ⟨b7, b8, xn, xa, xL, xc, xp, xl, xk, M1, yn, ya, yL, yc, yp, yl, yk, M3, rfl, rfl, TB7_6.out, TB8_6.out, HT1_6.out, HT3_6.out, HC1.out, HC3.out, BX6.out⟩
          · go_simp
            have tn := Thr.new x1 (.bool false) (.slice none 0 0) (.slice none 0 0) 35
            have hb := bel x1 (.cells #[.bool false, .slice none 0 0, .slice none 0 0] 35)
            have BX2 := hide (bafter BX1.out hb (Nat.le_refl _))
            have LB7 : Hid (w3.heap.size ≤ x1.heap.size) := BX1.out.size
            have TB7_2 := hide tn
            have TB8_2 := hide (TB8_1.out.keep hb)
            have NE : Hid (b8 ≠ x1.heap.size) := Nat.ne_of_lt TB8_1.out.lt
            clear tn hb
            generalize x1.heap.size = b7 at *
            generalize x1.alloc (.cells #[.bool false, .slice none 0 0, .slice none 0 0] 35) = x2 at *
            refine hK.out _ _ (HS.out _ BX2.out) (fun hHeld => ?_)
            clear hK K hHeld
            try simp only [Act.put, List.setIfInBounds_toArray, List.set_cons_zero, List.set_cons_succ]
            refine wpAnyH_ready (rs := [1]) (by kernel_rfl) (by simp) ?_
            refine AllReadyH.cons rfl (fun K hK => ?_) AllReadyH.nil
            go_simp
            refine (HBO.out.of (bafter HW3.out BX2.out (Nat.le_refl _))).mono ?_
            rintro e x3 ⟨vv, M1, rfl, ht, hc, hb⟩
            obtain ⟨xn, xa, xL, xc, xp, xl, xk, rfl⟩ := ht.form
            have BX3 : Hid (Below w3.heap.size w3 x3) := bafter BX2.out hb (Nat.le_refl _)
            have HT1_3 := hide ht
            have HC1 := hide hc
            have TB7_3 := hide (TB7_2.out.keep hb)
            have TB8_3 := hide (TB8_2.out.keep hb)
            clear ht hc hb
            go_wp2_with fail
            refine hK.out _ _ (HS.out _ BX3.out) (fun hHeld => ?_)
            clear hK K hHeld
            try simp only [Act.put, List.setIfInBounds_toArray, List.set_cons_zero, List.set_cons_succ]
            refine wpAnyH_ready (rs := [3]) (by kernel_rfl) (by simp) ?_
            refine AllReadyH.cons rfl (fun K hK => ?_) AllReadyH.nil
            go_simp
            refine (HBP.out.of (bafter HW3.out BX3.out (Nat.le_refl _))).mono ?_
            rintro e x4 ⟨vv, M3, rfl, ht, hc, hb⟩
            obtain ⟨yn, ya, yL, yc, yp, yl, yk, rfl⟩ := ht.form
            have BX4 : Hid (Below w3.heap.size w3 x4) := bafter BX3.out hb (Nat.le_refl _)
            have HT3_4 := hide ht
            have HC3 := hide hc
            have HT1_4 := hide (HT1_3.out.below hb)
            have TB7_4 := hide (TB7_3.out.keep hb)
            have TB8_4 := hide (TB8_3.out.keep hb)
            clear ht hc hb
            go_wp2_with fail
            refine hK.out _ _ (HS.out _ BX4.out) (fun hHeld => ?_)
            clear hK K hHeld
            try simp only [Act.put, List.setIfInBounds_toArray, List.set_cons_zero, List.set_cons_succ]
            refine wpAnyH_ready (rs := [6]) (by kernel_rfl) (by simp) ?_
            refine AllReadyH.cons rfl (fun K hK => ?_) AllReadyH.nil
            obtain ⟨z0, z1, z2, f0, f1, f2⟩ := TB7_4.out.every
            go_simp
            have nb : b8 ≠ b7 := by first | exact NE.out | exact NE.out.symm
            have bn := TB7_4.out.but (.bool xn) (.slice xa xL xc) (.slice xp xl xk)
            have TB7_5 := hide (TB7_4.out.put (.bool xn) (.slice xa xL xc) (.slice xp xl xk))
            have TB8_5 : Hid (Thr (put3 x4 b7 (.bool xn) (.slice xa xL xc) (.slice xp xl xk)) b8 _ _ _ _) := (put3_other nb (.bool xn) (.slice xa xL xc) (.slice xp xl xk)).trans TB8_4.out
            have BX5 := hide (put3_below BX4.out LB7.out (.bool xn) (.slice xa xL xc) (.slice xp xl xk))
            have HT1_5 := hide (HT1_4.out.but bn)
            have HT3_5 := hide (HT3_4.out.but bn)
            clear z0 z1 z2 f0 f1 f2 nb bn
            refine hK.out _ (put3 x4 b7 (.bool xn) (.slice xa xL xc) (.slice xp xl xk)) (HS.out _ BX5.out) (fun hHeld => ?_)
            clear hK K hHeld
            generalize put3 x4 b7 (.bool xn) (.slice xa xL xc) (.slice xp xl xk) = x5 at *
            try simp only [Act.put, List.setIfInBounds_toArray, List.set_cons_zero, List.set_cons_succ]
            refine wpAnyH_ready (rs := [7]) (by kernel_rfl) (by simp) ?_
            refine AllReadyH.cons rfl (fun K hK => ?_) AllReadyH.nil
            obtain ⟨z0, z1, z2, f0, f1, f2⟩ := TB8_5.out.every
            go_simp
            have nb : b7 ≠ b8 := by first | exact NE.out | exact NE.out.symm
            have bn := TB8_5.out.but (.bool yn) (.slice ya yL yc) (.slice yp yl yk)
            have TB8_6 := hide (TB8_5.out.put (.bool yn) (.slice ya yL yc) (.slice yp yl yk))
            have TB7_6 : Hid (Thr (put3 x5 b8 (.bool yn) (.slice ya yL yc) (.slice yp yl yk)) b7 _ _ _ _) := (put3_other nb (.bool yn) (.slice ya yL yc) (.slice yp yl yk)).trans TB7_5.out
            have BX6 := hide (put3_below BX5.out LB8.out (.bool yn) (.slice ya yL yc) (.slice yp yl yk))
            have HT1_6 := hide (HT1_5.out.but bn)
            have HT3_6 := hide (HT3_5.out.but bn)
            clear z0 z1 z2 f0 f1 f2 nb bn
            refine hK.out _ (put3 x5 b8 (.bool yn) (.slice ya yL yc) (.slice yp yl yk)) (HS.out _ BX6.out) (fun hHeld => ?_)
            clear hK K hHeld
            generalize put3 x5 b8 (.bool yn) (.slice ya yL yc) (.slice yp yl yk) = x6 at *
            try simp only [Act.put, List.setIfInBounds_toArray, List.set_cons_zero, List.set_cons_succ]
            refine wpAnyH_done (by kernel_rfl) ?_ _
            go_wp2_with fail
            go_meet
            exact ⟨b7, b8, xn, xa, xL, xc, xp, xl, xk, M1, yn, ya, yL, yc, yp, yl, yk, M3, rfl, rfl, TB7_6.out, TB8_6.out, HT1_6.out, HT3_6.out, HC1.out, HC3.out, BX6.out⟩
      case rest =>
        obtain ⟨b7, b8, xn, xa, xL, xc, xp, xl, xk, M7, yn, ya, yL, yc, yp, yl, yk, M8, rfl, rfl, t7, t8, ht7, ht8, hc7, hc8, hb4⟩ := hcut
        have HW4 := hide (bafter HW3.out hb4 (Nat.le_refl _))
        have T7 := hide t7
        have T8 := hide t8
        have HT7 := hide ht7
        have HT8 := hide ht8
        have HC7 := hide hc7
        have HC8 := hide hc8
        have HS0 := hide (fun (X : World) (hX : Below wc.heap.size wc X) => HS.out X (bafter hb4 hX (Nat.le_refl _)))
        have HL7 : Hid (M7.length ≤ 12) := by
          have h9 := congrArg List.length hc7
          rw [ps_length, ps_length] at h9
          have := HBO.out.len
          show _ ≤ _
          omega
        have HL8 : Hid (M8.length ≤ 12) := by
          have h9 := congrArg List.length hc8
          rw [ps_length, ps_length] at h9
          have := HBP.out.len
          show _ ≤ _
          omega
        have HB7 : Hid (BndT 80 (ps M7)) := by
          show BndT 80 (ps M7)
          rw [hc7]
          exact HBO.out.bnd
        have HB8 : Hid (BndT 80 (ps M8)) := by
          show BndT 80 (ps M8)
          rw [hc8]
          exact HBP.out.bnd
        have HLA12 : Hid ((ps A).length ≤ 12) := by
          show _ ≤ _
          rw [ps_length]
          exact HBO.out.len
        have HLB12 : Hid ((ps B).length ≤ 12) := by
          show _ ≤ _
          rw [ps_length]
          exact HBP.out.len
        clear t7 t8 ht7 ht8 hc7 hc8 hb4
        have HSX : Hid (∀ X : World, Below wc.heap.size wc X → X.cell? ⟨w.heap.size, 0, none⟩ = some (.bool an) ∧ X.cell? ⟨w.heap.size, 1, none⟩ = some (.slice aa aL ac) ∧ X.cell? ⟨w.heap.size, 2, none⟩ = some (.slice ap al ak) ∧ X.cell? ⟨w.heap.size + 1, 0, none⟩ = some (.bool bn) ∧ X.cell? ⟨w.heap.size + 1, 1, none⟩ = some (.slice ba bL bc) ∧ X.cell? ⟨w.heap.size + 1, 2, none⟩ = some (.slice bp bl bk) ∧ X.cell? ⟨w.heap.size + 2, 0, none⟩ = some (.bool nn) ∧ X.cell? ⟨w.heap.size + 2, 1, none⟩ = some (.slice na nL nc) ∧ X.cell? ⟨b7, 0, none⟩ = some (.bool xn) ∧ X.cell? ⟨b7, 1, none⟩ = some (.slice xa xL xc) ∧ X.cell? ⟨b7, 2, none⟩ = some (.slice xp xl xk) ∧ X.cell? ⟨b8, 0, none⟩ = some (.bool yn) ∧ X.cell? ⟨b8, 1, none⟩ = some (.slice ya yL yc) ∧ X.cell? ⟨b8, 2, none⟩ = some (.slice yp yl yk)) := fun X hX => by
          obtain ⟨p0, p1, p2, p3, p4, p5, p6, p7⟩ := HS0.out X hX
          exact ⟨p0, p1, p2, p3, p4, p5, p6, p7, (T7.out.keep hX).c0, (T7.out.keep hX).c1, (T7.out.keep hX).c2, (T8.out.keep hX).c0, (T8.out.keep hX).c1, (T8.out.keep hX).c2⟩
        go_upto_region 4 with fail
        refine wp_region_held_drew (S := fun X : World => X.cell? ⟨w.heap.size, 0, none⟩ = some (.bool an) ∧ X.cell? ⟨w.heap.size, 1, none⟩ = some (.slice aa aL ac) ∧ X.cell? ⟨w.heap.size, 2, none⟩ = some (.slice ap al ak) ∧ X.cell? ⟨w.heap.size + 1, 0, none⟩ = some (.bool bn) ∧ X.cell? ⟨w.heap.size + 1, 1, none⟩ = some (.slice ba bL bc) ∧ X.cell? ⟨w.heap.size + 1, 2, none⟩ = some (.slice bp bl bk) ∧ X.cell? ⟨w.heap.size + 2, 0, none⟩ = some (.bool nn) ∧ X.cell? ⟨w.heap.size + 2, 1, none⟩ = some (.slice na nL nc) ∧ X.cell? ⟨b7, 0, none⟩ = some (.bool xn) ∧ X.cell? ⟨b7, 1, none⟩ = some (.slice xa xL xc) ∧ X.cell? ⟨b7, 2, none⟩ = some (.slice xp xl xk) ∧ X.cell? ⟨b8, 0, none⟩ = some (.bool yn) ∧ X.cell? ⟨b8, 1, none⟩ = some (.slice ya yL yc) ∧ X.cell? ⟨b8, 2, none⟩ = some (.slice yp yl yk)) (by kernel_rfl) ?_ (fun hHeld => ?_)
        · exact HSX.out _ (by (first | exact (Below.refl _ _).drew | exact Below.refl _ _))
        refine wpAnyH_ready (rs := [0]) (by kernel_rfl) (by simp) ?_
        refine AllReadyH.cons rfl (fun K hK => ?_) AllReadyH.nil
        go_simp
        refine (summed_calls _ (tab_keep HTAB.out (bafter HW4.out (by (first | exact (Below.refl _ _).drew | exact Below.refl _ _)) (Nat.le_refl _)))).mono ?_
        rintro e w20 ⟨rfl, hb20⟩
        have HB20 : Hid (Below wc.heap.size wc w20) := bafter (by (first | exact (Below.refl _ _).drew | exact Below.refl _ _)) hb20 (Nat.le_refl _)
        have HBS20 := hide hb20
        clear hb20 hHeld
        go_wp2_with fail
        refine hK.out _ _ (HSX.out _ HB20.out) (fun hHeld => ?_)
        clear hK K
        try simp only [Act.put, List.setIfInBounds_toArray, List.set_cons_zero, List.set_cons_succ]
        refine takeD (i := 1) (v := ?v3) (some 28) rfl (by kernel_rfl) (by kernel_rfl) (by kernel_rfl) (fun _ _ _ h => h) (Or.inl ⟨by rfl, ?hy3⟩) (by assumption) (by rfl) ?rest3
        case hy3 => first | (intro w hSw; (try dsimp only at hSw); obtain ⟨q0, q1, q2, q3, q4, q5, q6, q7, q8, q9, q10, q11, q12, q13⟩ := hSw; go_simp; done) | (intro w hSw; (try dsimp only at hSw); obtain ⟨q0, q1, q2, q3, q4, q5, q6, q7, q8, q9, q10, q11, q12, q13⟩ := hSw; go_simp; with_reducible rfl)
        try simp only [Act.put, List.setIfInBounds_toArray, List.set_cons_zero, List.set_cons_succ]
        refine takeD (i := 2) (v := ?v4) (some 29) rfl (by kernel_rfl) (by kernel_rfl) (by kernel_rfl) (fun _ _ _ h => h) (Or.inl ⟨by rfl, ?hy4⟩) (by assumption) (by rfl) ?rest4
        case hy4 => first | (intro w hSw; (try dsimp only at hSw); obtain ⟨q0, q1, q2, q3, q4, q5, q6, q7, q8, q9, q10, q11, q12, q13⟩ := hSw; go_simp; done) | (intro w hSw; (try dsimp only at hSw); obtain ⟨q0, q1, q2, q3, q4, q5, q6, q7, q8, q9, q10, q11, q12, q13⟩ := hSw; go_simp; with_reducible rfl)
        try simp only [Act.put, List.setIfInBounds_toArray, List.set_cons_zero, List.set_cons_succ]
        refine takeD (i := 3) (v := ?v5) (some 30) rfl (by kernel_rfl) (by kernel_rfl) (by kernel_rfl) (fun _ _ _ h => h) (Or.inl ⟨by rfl, ?hy5⟩) (by assumption) (by rfl) ?rest5
        case hy5 => first | (intro w hSw; (try dsimp only at hSw); obtain ⟨q0, q1, q2, q3, q4, q5, q6, q7, q8, q9, q10, q11, q12, q13⟩ := hSw; go_simp; done) | (intro w hSw; (try dsimp only at hSw); obtain ⟨q0, q1, q2, q3, q4, q5, q6, q7, q8, q9, q10, q11, q12, q13⟩ := hSw; go_simp; with_reducible rfl)
        try simp only [Act.put, List.setIfInBounds_toArray, List.set_cons_zero, List.set_cons_succ]
        refine takeD (i := 5) (v := ?v6) (some 32) rfl (by kernel_rfl) (by kernel_rfl) (by kernel_rfl) (fun _ _ _ h => h) (Or.inl ⟨by rfl, ?hy6⟩) (by assumption) (by rfl) ?rest6
        case hy6 => first | (intro w hSw; (try dsimp only at hSw); obtain ⟨q0, q1, q2, q3, q4, q5, q6, q7, q8, q9, q10, q11, q12, q13⟩ := hSw; go_simp; done) | (intro w hSw; (try dsimp only at hSw); obtain ⟨q0, q1, q2, q3, q4, q5, q6, q7, q8, q9, q10, q11, q12, q13⟩ := hSw; go_simp; with_reducible rfl)
        try simp only [Act.put, List.setIfInBounds_toArray, List.set_cons_zero, List.set_cons_succ]
        refine takeD (i := 6) (v := ?v7) (some 33) rfl (by kernel_rfl) (by kernel_rfl) (by kernel_rfl) (fun _ _ _ h => h) (Or.inl ⟨by rfl, ?hy7⟩) (by assumption) (by rfl) ?rest7
        case hy7 => first | (intro w hSw; (try dsimp only at hSw); obtain ⟨q0, q1, q2, q3, q4, q5, q6, q7, q8, q9, q10, q11, q12, q13⟩ := hSw; go_simp; done) | (intro w hSw; (try dsimp only at hSw); obtain ⟨q0, q1, q2, q3, q4, q5, q6, q7, q8, q9, q10, q11, q12, q13⟩ := hSw; go_simp; with_reducible rfl)
        try simp only [Act.put, List.setIfInBounds_toArray, List.set_cons_zero, List.set_cons_succ]
        refine wpAnyH_ready (rs := [4]) (by kernel_rfl) (by simp) ?_
        refine AllReadyH.cons rfl (fun K hK => ?_) AllReadyH.nil
        go_simp
        refine (ladd_calls (HBO.out.term.below (bafter HW4.out HB20.out (Nat.le_refl _))) (HBP.out.term.below (bafter HW4.out HB20.out (Nat.le_refl _))) (by omega)).mono ?_
        rintro e w21 ⟨v21, M21, rfl, ht21, hc21, hb21⟩
        have HB21 : Hid (Below wc.heap.size wc w21) := bafter HB20.out hb21 (Nat.le_refl _)
        have HBS21 := hide hb21
        obtain ⟨en, ea, eL, ec, ep, el, ek, rfl⟩ := ht21.form
        have HT21 := hide ht21
        have HC21 := hide hc21
        clear ht21 hc21 hb21 hHeld
        go_wp2_with fail
        refine hK.out _ _ (HSX.out _ HB21.out) (fun hHeld => ?_)
        clear hK K
        try simp only [Act.put, List.setIfInBounds_toArray, List.set_cons_zero, List.set_cons_succ]
        refine wpAnyH_ready (rs := [7]) (by kernel_rfl) (by simp) ?_
        refine AllReadyH.cons rfl (fun K hK => ?_) AllReadyH.nil
        go_simp
        refine (raddT_calls (K := 80) (HT7.out.below HB21.out) (HT8.out.below HB21.out) HBO.out.cb HBP.out.cb HB7.out HB8.out (by have := HL7.out; omega) (by have := HL8.out; omega) (by omega)).mono ?_
        rintro e w22 ⟨v22, M22, rfl, ht22, hc22, hb22⟩
        have HB22 : Hid (Below wc.heap.size wc w22) := bafter HB21.out hb22 (Nat.le_refl _)
        have HBS22 := hide hb22
        obtain ⟨fn, fa, fL, fc, fp, fl, fk, rfl⟩ := ht22.form
        have HT22 := hide ht22
        have HC22 := hide hc22
        clear ht22 hc22 hb22 hHeld
        go_wp2_with fail
        refine hK.out _ _ (HSX.out _ HB22.out) (fun hHeld => ?_)
        clear hK K
        try simp only [Act.put, List.setIfInBounds_toArray, List.set_cons_zero, List.set_cons_succ]
        have HEQ : Hid (ps M21 = ps M22) := nf_unique HT21.out.nf HC22.out.1 (fun u => by rw [HC21.out, HC22.out.2, HC7.out, HC8.out])
        have HBN : Hid (BndT K9 (ps M21)) := bnd_by' HT21.out.nf HC21.out (fun u => (sums_bnd (cf_92 HBO.out.bnd HLA12.out u) (cf_92 HBP.out.bnd HLB12.out u) (by omega) hK9).1)
        have hlm : M21.length ≤ 1000 := by
          have h9 := len_ps (l := ps A ++ ps B) HT21.out.nf (fun u => by rw [HC21.out, cf_append])
          rw [List.length_append] at h9
          have := HLA12.out
          have := HLB12.out
          omega
        have HCB : Hid ((c + d).natAbs < 10 ^ K9) := (sums_bnd HBO.out.cb HBP.out.cb (by omega) hK9).1
        refine wpAnyH_ready (rs := [8]) (by kernel_rfl) (by simp) ?_
        refine AllReadyH.cons rfl (fun K hK => ?_) AllReadyH.nil
        go_simp
        refine (gsameT_calls (K := K9) (HT21.out.below HBS22.out) HT22.out HEQ.out HCB.out HBN.out hlm (by omega)).mono ?_
        rintro e w23 ⟨rfl, hb23⟩
        have HB23 : Hid (Below wc.heap.size wc w23) := bafter HB22.out hb23 (Nat.le_refl _)
        have HBS23 := hide hb23
        clear hb23 hHeld
        go_wp2_with fail
        refine hK.out _ _ (HSX.out _ HB23.out) (fun hHeld => ?_)
        clear hK K
        try simp only [Act.put, List.setIfInBounds_toArray, List.set_cons_zero, List.set_cons_succ]
        clear hlm HEQ HBN HCB
        refine takeD (i := 9) (v := ?v8) (some 36) rfl (by kernel_rfl) (by kernel_rfl) (by kernel_rfl) (fun _ _ _ h => h) (Or.inl ⟨by rfl, ?hy8⟩) (by assumption) (by rfl) ?rest8
        case hy8 => first | (intro w hSw; (try dsimp only at hSw); obtain ⟨q0, q1, q2, q3, q4, q5, q6, q7, q8, q9, q10, q11, q12, q13⟩ := hSw; go_simp; done) | (intro w hSw; (try dsimp only at hSw); obtain ⟨q0, q1, q2, q3, q4, q5, q6, q7, q8, q9, q10, q11, q12, q13⟩ := hSw; go_simp; with_reducible rfl)
        try simp only [Act.put, List.setIfInBounds_toArray, List.set_cons_zero, List.set_cons_succ]
        refine takeD (i := 10) (v := ?v9) (some 37) rfl (by kernel_rfl) (by kernel_rfl) (by kernel_rfl) (fun _ _ _ h => h) (Or.inl ⟨by rfl, ?hy9⟩) (by assumption) (by rfl) ?rest9
        case hy9 => first | (intro w hSw; (try dsimp only at hSw); obtain ⟨q0, q1, q2, q3, q4, q5, q6, q7, q8, q9, q10, q11, q12, q13⟩ := hSw; go_simp; done) | (intro w hSw; (try dsimp only at hSw); obtain ⟨q0, q1, q2, q3, q4, q5, q6, q7, q8, q9, q10, q11, q12, q13⟩ := hSw; go_simp; with_reducible rfl)
        try simp only [Act.put, List.setIfInBounds_toArray, List.set_cons_zero, List.set_cons_succ]
        refine takeD (i := 11) (v := ?v10) (some 38) rfl (by kernel_rfl) (by kernel_rfl) (by kernel_rfl) (fun _ _ _ h => h) (Or.inl ⟨by rfl, ?hy10⟩) (by assumption) (by rfl) ?rest10
        case hy10 => first | (intro w hSw; (try dsimp only at hSw); obtain ⟨q0, q1, q2, q3, q4, q5, q6, q7, q8, q9, q10, q11, q12, q13⟩ := hSw; go_simp; done) | (intro w hSw; (try dsimp only at hSw); obtain ⟨q0, q1, q2, q3, q4, q5, q6, q7, q8, q9, q10, q11, q12, q13⟩ := hSw; go_simp; with_reducible rfl)
        try simp only [Act.put, List.setIfInBounds_toArray, List.set_cons_zero, List.set_cons_succ]
        refine takeD (i := 12) (v := ?v11) (some 39) rfl (by kernel_rfl) (by kernel_rfl) (by kernel_rfl) (fun _ _ _ h => h) (Or.inl ⟨by rfl, ?hy11⟩) (by assumption) (by rfl) ?rest11
        case hy11 => first | (intro w hSw; (try dsimp only at hSw); obtain ⟨q0, q1, q2, q3, q4, q5, q6, q7, q8, q9, q10, q11, q12, q13⟩ := hSw; go_simp; done) | (intro w hSw; (try dsimp only at hSw); obtain ⟨q0, q1, q2, q3, q4, q5, q6, q7, q8, q9, q10, q11, q12, q13⟩ := hSw; go_simp; with_reducible rfl)
        try simp only [Act.put, List.setIfInBounds_toArray, List.set_cons_zero, List.set_cons_succ]
        refine takeD (i := 14) (v := ?v12) (some 41) rfl (by kernel_rfl) (by kernel_rfl) (by kernel_rfl) (fun _ _ _ h => h) (Or.inl ⟨by rfl, ?hy12⟩) (by assumption) (by rfl) ?rest12
        case hy12 => first | (intro w hSw; (try dsimp only at hSw); obtain ⟨q0, q1, q2, q3, q4, q5, q6, q7, q8, q9, q10, q11, q12, q13⟩ := hSw; go_simp; done) | (intro w hSw; (try dsimp only at hSw); obtain ⟨q0, q1, q2, q3, q4, q5, q6, q7, q8, q9, q10, q11, q12, q13⟩ := hSw; go_simp; with_reducible rfl)
        try simp only [Act.put, List.setIfInBounds_toArray, List.set_cons_zero, List.set_cons_succ]
        refine takeD (i := 15) (v := ?v13) (some 42) rfl (by kernel_rfl) (by kernel_rfl) (by kernel_rfl) (fun _ _ _ h => h) (Or.inl ⟨by rfl, ?hy13⟩) (by assumption) (by rfl) ?rest13
        case hy13 => first | (intro w hSw; (try dsimp only at hSw); obtain ⟨q0, q1, q2, q3, q4, q5, q6, q7, q8, q9, q10, q11, q12, q13⟩ := hSw; go_simp; done) | (intro w hSw; (try dsimp only at hSw); obtain ⟨q0, q1, q2, q3, q4, q5, q6, q7, q8, q9, q10, q11, q12, q13⟩ := hSw; go_simp; with_reducible rfl)
        try simp only [Act.put, List.setIfInBounds_toArray, List.set_cons_zero, List.set_cons_succ]
        refine wpAnyH_ready (rs := [13]) (by kernel_rfl) (by simp) ?_
        refine AllReadyH.cons rfl (fun K hK => ?_) AllReadyH.nil
        go_simp
        refine (lsub_calls (HBO.out.term.below (bafter HW4.out HB23.out (Nat.le_refl _))) (HBP.out.term.below (bafter HW4.out HB23.out (Nat.le_refl _))) (by omega)).mono ?_
        rintro e w24 ⟨v24, M24, rfl, ht24, hc24, hb24⟩
        have HB24 : Hid (Below wc.heap.size wc w24) := bafter HB23.out hb24 (Nat.le_refl _)
        have HBS24 := hide hb24
        obtain ⟨gn, ga, gL, gc, gp, gl, gk, rfl⟩ := ht24.form
        have HT24 := hide ht24
        have HC24 := hide hc24
        clear ht24 hc24 hb24 hHeld
        go_wp2_with fail
        refine hK.out _ _ (HSX.out _ HB24.out) (fun hHeld => ?_)
        clear hK K
        try simp only [Act.put, List.setIfInBounds_toArray, List.set_cons_zero, List.set_cons_succ]
        refine wpAnyH_ready (rs := [16]) (by kernel_rfl) (by simp) ?_
        refine AllReadyH.cons rfl (fun K hK => ?_) AllReadyH.nil
        go_simp
        refine (rsubT_calls (K := 80) (HT7.out.below HB24.out) (HT8.out.below HB24.out) HBO.out.cb HBP.out.cb HB7.out HB8.out (by have := HL7.out; omega) (by have := HL8.out; omega) (by omega) (by omega)).mono ?_
        rintro e w25 ⟨v25, M25, rfl, ht25, hc25, hb25⟩
        have HB25 : Hid (Below wc.heap.size wc w25) := bafter HB24.out hb25 (Nat.le_refl _)
        have HBS25 := hide hb25
        obtain ⟨hn, ha, hL, hc, hp, hl, hk, rfl⟩ := ht25.form
        have HT25 := hide ht25
        have HC25 := hide hc25
        clear ht25 hc25 hb25 hHeld
        go_wp2_with fail
        refine hK.out _ _ (HSX.out _ HB25.out) (fun hHeld => ?_)
        clear hK K
        try simp only [Act.put, List.setIfInBounds_toArray, List.set_cons_zero, List.set_cons_succ]
        have HEQ : Hid (ps M24 = ps M25) := nf_unique HT24.out.nf HC25.out.1 (fun u => by rw [HC24.out, HC25.out.2, HC7.out, HC8.out])
        have HBN : Hid (BndT K9 (ps M24)) := bnd_by' HT24.out.nf HC24.out (fun u => (sums_bnd (cf_92 HBO.out.bnd HLA12.out u) (cf_92 HBP.out.bnd HLB12.out u) (by omega) hK9).2.1)
        have hlm : M24.length ≤ 1000 := by
          have h9 := len_ps (l := ps A ++ times (-1) (ps B)) HT24.out.nf (fun u => by rw [HC24.out, cf_append, times, cf_scale]; omega)
          rw [List.length_append, times_length] at h9
          have := HLA12.out
          have := HLB12.out
          omega
        have HCB : Hid ((c - d).natAbs < 10 ^ K9) := (sums_bnd HBO.out.cb HBP.out.cb (by omega) hK9).2.1
        refine wpAnyH_ready (rs := [17]) (by kernel_rfl) (by simp) ?_
        refine AllReadyH.cons rfl (fun K hK => ?_) AllReadyH.nil
        go_simp
        refine (gsameT_calls (K := K9) (HT24.out.below HBS25.out) HT25.out HEQ.out HCB.out HBN.out hlm (by omega)).mono ?_
        rintro e w26 ⟨rfl, hb26⟩
        have HB26 : Hid (Below wc.heap.size wc w26) := bafter HB25.out hb26 (Nat.le_refl _)
        have HBS26 := hide hb26
        clear hb26 hHeld
        go_wp2_with fail
        refine hK.out _ _ (HSX.out _ HB26.out) (fun hHeld => ?_)
        clear hK K
        try simp only [Act.put, List.setIfInBounds_toArray, List.set_cons_zero, List.set_cons_succ]
        clear hlm HEQ HBN HCB
        refine takeD (i := 18) (v := ?v14) (some 45) rfl (by kernel_rfl) (by kernel_rfl) (by kernel_rfl) (fun _ _ _ h => h) (Or.inl ⟨by rfl, ?hy14⟩) (by assumption) (by rfl) ?rest14
        case hy14 => first | (intro w hSw; (try dsimp only at hSw); obtain ⟨q0, q1, q2, q3, q4, q5, q6, q7, q8, q9, q10, q11, q12, q13⟩ := hSw; go_simp; done) | (intro w hSw; (try dsimp only at hSw); obtain ⟨q0, q1, q2, q3, q4, q5, q6, q7, q8, q9, q10, q11, q12, q13⟩ := hSw; go_simp; with_reducible rfl)
        try simp only [Act.put, List.setIfInBounds_toArray, List.set_cons_zero, List.set_cons_succ]
        refine takeD (i := 19) (v := ?v15) (some 46) rfl (by kernel_rfl) (by kernel_rfl) (by kernel_rfl) (fun _ _ _ h => h) (Or.inl ⟨by rfl, ?hy15⟩) (by assumption) (by rfl) ?rest15
        case hy15 => first | (intro w hSw; (try dsimp only at hSw); obtain ⟨q0, q1, q2, q3, q4, q5, q6, q7, q8, q9, q10, q11, q12, q13⟩ := hSw; go_simp; done) | (intro w hSw; (try dsimp only at hSw); obtain ⟨q0, q1, q2, q3, q4, q5, q6, q7, q8, q9, q10, q11, q12, q13⟩ := hSw; go_simp; with_reducible rfl)
        try simp only [Act.put, List.setIfInBounds_toArray, List.set_cons_zero, List.set_cons_succ]
        refine takeD (i := 20) (v := ?v16) (some 47) rfl (by kernel_rfl) (by kernel_rfl) (by kernel_rfl) (fun _ _ _ h => h) (Or.inl ⟨by rfl, ?hy16⟩) (by assumption) (by rfl) ?rest16
        case hy16 => first | (intro w hSw; (try dsimp only at hSw); obtain ⟨q0, q1, q2, q3, q4, q5, q6, q7, q8, q9, q10, q11, q12, q13⟩ := hSw; go_simp; done) | (intro w hSw; (try dsimp only at hSw); obtain ⟨q0, q1, q2, q3, q4, q5, q6, q7, q8, q9, q10, q11, q12, q13⟩ := hSw; go_simp; with_reducible rfl)
        try simp only [Act.put, List.setIfInBounds_toArray, List.set_cons_zero, List.set_cons_succ]
        refine takeD (i := 21) (v := ?v17) (some 48) rfl (by kernel_rfl) (by kernel_rfl) (by kernel_rfl) (fun _ _ _ h => h) (Or.inl ⟨by rfl, ?hy17⟩) (by assumption) (by rfl) ?rest17
        case hy17 => first | (intro w hSw; (try dsimp only at hSw); obtain ⟨q0, q1, q2, q3, q4, q5, q6, q7, q8, q9, q10, q11, q12, q13⟩ := hSw; go_simp; done) | (intro w hSw; (try dsimp only at hSw); obtain ⟨q0, q1, q2, q3, q4, q5, q6, q7, q8, q9, q10, q11, q12, q13⟩ := hSw; go_simp; with_reducible rfl)
        try simp only [Act.put, List.setIfInBounds_toArray, List.set_cons_zero, List.set_cons_succ]
        refine takeD (i := 23) (v := ?v18) (some 50) rfl (by kernel_rfl) (by kernel_rfl) (by kernel_rfl) (fun _ _ _ h => h) (Or.inl ⟨by rfl, ?hy18⟩) (by assumption) (by rfl) ?rest18
        case hy18 => first | (intro w hSw; (try dsimp only at hSw); obtain ⟨q0, q1, q2, q3, q4, q5, q6, q7, q8, q9, q10, q11, q12, q13⟩ := hSw; go_simp; done) | (intro w hSw; (try dsimp only at hSw); obtain ⟨q0, q1, q2, q3, q4, q5, q6, q7, q8, q9, q10, q11, q12, q13⟩ := hSw; go_simp; with_reducible rfl)
        try simp only [Act.put, List.setIfInBounds_toArray, List.set_cons_zero, List.set_cons_succ]
        refine takeD (i := 24) (v := ?v19) (some 51) rfl (by kernel_rfl) (by kernel_rfl) (by kernel_rfl) (fun _ _ _ h => h) (Or.inl ⟨by rfl, ?hy19⟩) (by assumption) (by rfl) ?rest19
        case hy19 => first | (intro w hSw; (try dsimp only at hSw); obtain ⟨q0, q1, q2, q3, q4, q5, q6, q7, q8, q9, q10, q11, q12, q13⟩ := hSw; go_simp; done) | (intro w hSw; (try dsimp only at hSw); obtain ⟨q0, q1, q2, q3, q4, q5, q6, q7, q8, q9, q10, q11, q12, q13⟩ := hSw; go_simp; with_reducible rfl)
        try simp only [Act.put, List.setIfInBounds_toArray, List.set_cons_zero, List.set_cons_succ]
        refine wpAnyH_ready (rs := [22]) (by kernel_rfl) (by simp) ?_
        refine AllReadyH.cons rfl (fun K hK => ?_) AllReadyH.nil
        go_simp
        refine (scale_calls (HBO.out.term.below (bafter HW4.out HB26.out (Nat.le_refl _))) (HZB.out.below (bafter HW4.out HB26.out (Nat.le_refl _))) (by omega)).mono ?_
        rintro e w27 ⟨v27, M27, rfl, ht27, hc27, hb27⟩
        have HB27 : Hid (Below wc.heap.size wc w27) := bafter HB26.out hb27 (Nat.le_refl _)
        have HBS27 := hide hb27
        obtain ⟨iin, iia, iiL, iic, iip, iil, iik, rfl⟩ := ht27.form
        have HT27 := hide ht27
        have HC27 := hide hc27
        clear ht27 hc27 hb27 hHeld
        go_wp2_with fail
        refine hK.out _ _ (HSX.out _ HB27.out) (fun hHeld => ?_)
        clear hK K
        try simp only [Act.put, List.setIfInBounds_toArray, List.set_cons_zero, List.set_cons_succ]
        refine wpAnyH_ready (rs := [25]) (by kernel_rfl) (by simp) ?_
        refine AllReadyH.cons rfl (fun K hK => ?_) AllReadyH.nil
        go_simp
        refine (gnum_calls (neg := nn) (HZ.out.below (bafter HW4.out HB27.out (Nat.le_refl _))) (by rw [HLZ.out]; have := H4.out; omega)).mono ?_
        rintro e w28 ⟨v28, rfl, hr28, hb28⟩
        have HB28 : Hid (Below wc.heap.size wc w28) := bafter HB27.out hb28 (Nat.le_refl _)
        have HBS28 := hide hb28
        rw [← HZZ.out] at hr28
        obtain ⟨jn, ja, jL, jc, rfl⟩ := hr28.form
        have HR28 := hide hr28
        clear hr28 hb28 hHeld
        go_wp2_with fail
        refine hK.out _ _ (HSX.out _ HB28.out) (fun hHeld => ?_)
        clear hK K
        try simp only [Act.put, List.setIfInBounds_toArray, List.set_cons_zero, List.set_cons_succ]
        refine wpAnyH_ready (rs := [26]) (by kernel_rfl) (by simp) ?_
        refine AllReadyH.cons rfl (fun K hK => ?_) AllReadyH.nil
        go_simp
        refine (rscaleT_calls (K := 80) (HT7.out.below HB28.out) HR28.out HBO.out.cb HZL.out HB7.out (by have := HL7.out; omega) (by omega)).mono ?_
        rintro e w29 ⟨v29, M29, rfl, ht29, hc29, hb29⟩
        have HB29 : Hid (Below wc.heap.size wc w29) := bafter HB28.out hb29 (Nat.le_refl _)
        have HBS29 := hide hb29
        obtain ⟨kn, ka, kL, kc, kp, kl, kk, rfl⟩ := ht29.form
        have HT29 := hide ht29
        have HC29 := hide hc29
        clear ht29 hc29 hb29 hHeld
        go_wp2_with fail
        refine hK.out _ _ (HSX.out _ HB29.out) (fun hHeld => ?_)
        clear hK K
        try simp only [Act.put, List.setIfInBounds_toArray, List.set_cons_zero, List.set_cons_succ]
        have HEQ : Hid (ps M27 = ps M29) := nf_unique HT27.out.nf HC29.out.1 (fun u => by rw [HC27.out, HC29.out.2, HC7.out])
        have HBN : Hid (BndT K9 (ps M27)) := bnd_by' HT27.out.nf HC27.out (fun u => (sums_bnd (cf_92 HBO.out.bnd HLA12.out u) (ten_up HZL.out (show 80 ≤ 92 by omega)) (by omega) hK9).2.2)
        have hlm : M27.length ≤ 1000 := by
          have h9 := len_ps (l := times z (ps A)) HT27.out.nf (fun u => by rw [HC27.out, times, cf_scale])
          rw [times_length] at h9
          have := HLA12.out
          omega
        have HCB : Hid ((c * z).natAbs < 10 ^ K9) := (sums_bnd HBO.out.cb HZL.out (by omega) hK9).2.2
        refine wpAnyH_ready (rs := [27]) (by kernel_rfl) (by simp) ?_
        refine AllReadyH.cons rfl (fun K hK => ?_) AllReadyH.nil
        go_simp
        refine (gsameT_calls (K := K9) ((HT27.out.below HBS28.out).below HBS29.out) HT29.out HEQ.out HCB.out HBN.out hlm (by omega)).mono ?_
        rintro e w30 ⟨rfl, hb30⟩
        have HB30 : Hid (Below wc.heap.size wc w30) := bafter HB29.out hb30 (Nat.le_refl _)
        have HBS30 := hide hb30
        clear hb30 hHeld
        go_wp2_with fail
        refine hK.out _ _ (HSX.out _ HB30.out) (fun hHeld => ?_)
        clear hK K
        try simp only [Act.put, List.setIfInBounds_toArray, List.set_cons_zero, List.set_cons_succ]
        clear hlm HEQ HBN HCB
        refine takeD (i := 28) (v := ?v20) (some 55) rfl (by kernel_rfl) (by kernel_rfl) (by kernel_rfl) (fun _ _ _ h => h) (Or.inl ⟨by rfl, ?hy20⟩) (by assumption) (by rfl) ?rest20
        case hy20 => first | (intro w hSw; (try dsimp only at hSw); obtain ⟨q0, q1, q2, q3, q4, q5, q6, q7, q8, q9, q10, q11, q12, q13⟩ := hSw; go_simp; done) | (intro w hSw; (try dsimp only at hSw); obtain ⟨q0, q1, q2, q3, q4, q5, q6, q7, q8, q9, q10, q11, q12, q13⟩ := hSw; go_simp; with_reducible rfl)
        try simp only [Act.put, List.setIfInBounds_toArray, List.set_cons_zero, List.set_cons_succ]
        refine takeD (i := 29) (v := ?v21) (some 56) rfl (by kernel_rfl) (by kernel_rfl) (by kernel_rfl) (fun _ _ _ h => h) (Or.inl ⟨by rfl, ?hy21⟩) (by assumption) (by rfl) ?rest21
        case hy21 => first | (intro w hSw; (try dsimp only at hSw); obtain ⟨q0, q1, q2, q3, q4, q5, q6, q7, q8, q9, q10, q11, q12, q13⟩ := hSw; go_simp; done) | (intro w hSw; (try dsimp only at hSw); obtain ⟨q0, q1, q2, q3, q4, q5, q6, q7, q8, q9, q10, q11, q12, q13⟩ := hSw; go_simp; with_reducible rfl)
        try simp only [Act.put, List.setIfInBounds_toArray, List.set_cons_zero, List.set_cons_succ]
        refine takeD (i := 30) (v := ?v22) (some 57) rfl (by kernel_rfl) (by kernel_rfl) (by kernel_rfl) (fun _ _ _ h => h) (Or.inl ⟨by rfl, ?hy22⟩) (by assumption) (by rfl) ?rest22
        case hy22 => first | (intro w hSw; (try dsimp only at hSw); obtain ⟨q0, q1, q2, q3, q4, q5, q6, q7, q8, q9, q10, q11, q12, q13⟩ := hSw; go_simp; done) | (intro w hSw; (try dsimp only at hSw); obtain ⟨q0, q1, q2, q3, q4, q5, q6, q7, q8, q9, q10, q11, q12, q13⟩ := hSw; go_simp; with_reducible rfl)
        try simp only [Act.put, List.setIfInBounds_toArray, List.set_cons_zero, List.set_cons_succ]
        refine takeD (i := 31) (v := ?v23) (some 58) rfl (by kernel_rfl) (by kernel_rfl) (by kernel_rfl) (fun _ _ _ h => h) (Or.inl ⟨by rfl, ?hy23⟩) (by assumption) (by rfl) ?rest23
        case hy23 => first | (intro w hSw; (try dsimp only at hSw); obtain ⟨q0, q1, q2, q3, q4, q5, q6, q7, q8, q9, q10, q11, q12, q13⟩ := hSw; go_simp; done) | (intro w hSw; (try dsimp only at hSw); obtain ⟨q0, q1, q2, q3, q4, q5, q6, q7, q8, q9, q10, q11, q12, q13⟩ := hSw; go_simp; with_reducible rfl)
        try simp only [Act.put, List.setIfInBounds_toArray, List.set_cons_zero, List.set_cons_succ]
        refine takeD (i := 33) (v := ?v24) (some 60) rfl (by kernel_rfl) (by kernel_rfl) (by kernel_rfl) (fun _ _ _ h => h) (Or.inl ⟨by rfl, ?hy24⟩) (by assumption) (by rfl) ?rest24
        case hy24 => first | (intro w hSw; (try dsimp only at hSw); obtain ⟨q0, q1, q2, q3, q4, q5, q6, q7, q8, q9, q10, q11, q12, q13⟩ := hSw; go_simp; done) | (intro w hSw; (try dsimp only at hSw); obtain ⟨q0, q1, q2, q3, q4, q5, q6, q7, q8, q9, q10, q11, q12, q13⟩ := hSw; go_simp; with_reducible rfl)
        try simp only [Act.put, List.setIfInBounds_toArray, List.set_cons_zero, List.set_cons_succ]
        refine takeD (i := 35) (v := ?v25) (some 62) rfl (by kernel_rfl) (by kernel_rfl) (by kernel_rfl) (fun _ _ _ h => h) (Or.inl ⟨by rfl, ?hy25⟩) (by assumption) (by rfl) ?rest25
        case hy25 => first | (intro w hSw; (try dsimp only at hSw); obtain ⟨q0, q1, q2, q3, q4, q5, q6, q7, q8, q9, q10, q11, q12, q13⟩ := hSw; go_simp; done) | (intro w hSw; (try dsimp only at hSw); obtain ⟨q0, q1, q2, q3, q4, q5, q6, q7, q8, q9, q10, q11, q12, q13⟩ := hSw; go_simp; with_reducible rfl)
        try simp only [Act.put, List.setIfInBounds_toArray, List.set_cons_zero, List.set_cons_succ]
        refine wpAnyH_ready (rs := [32]) (by kernel_rfl) (by simp) ?_
        refine AllReadyH.cons rfl (fun K hK => ?_) AllReadyH.nil
        go_simp
        refine (lequal_calls (HBO.out.term.below (bafter HW4.out HB30.out (Nat.le_refl _))) (HBP.out.term.below (bafter HW4.out HB30.out (Nat.le_refl _))) (by omega) (by have := HBO.out.len; have := HBP.out.len; omega)).mono ?_
        rintro e w31 ⟨l31, rfl, hn31, hc31, hb31⟩
        have HB31 : Hid (Below wc.heap.size wc w31) := bafter HB30.out hb31 (Nat.le_refl _)
        have HBS31 := hide hb31
        have HN31 := hide hn31
        have HC31 := hide hc31
        obtain ⟨bq, hbq⟩ : ∃ bq, bq = (decide (l31.length = 0) && decide (c - d = 0)) := ⟨_, rfl⟩
        rw [← hbq]
        have HBQ := hide hbq
        clear hn31 hc31 hb31 hHeld hbq
        go_wp2_with fail
        refine hK.out _ _ (HSX.out _ HB31.out) (fun hHeld => ?_)
        clear hK K
        try simp only [Act.put, List.setIfInBounds_toArray, List.set_cons_zero, List.set_cons_succ]
        refine wpAnyH_ready (rs := [34]) (by kernel_rfl) (by simp) ?_
        refine AllReadyH.cons rfl (fun K hK => ?_) AllReadyH.nil
        go_simp
        refine (rnormT_calls (K := 80) (HT7.out.below HB31.out) HBO.out.cb HB7.out (by have := HL7.out; omega) (by omega)).mono ?_
        rintro e w32 ⟨v32, M32, rfl, ht32, hc32, hb32⟩
        have HB32 : Hid (Below wc.heap.size wc w32) := bafter HB31.out hb32 (Nat.le_refl _)
        have HBS32 := hide hb32
        obtain ⟨ln, la, lL, lc, lp, ll, lk, rfl⟩ := ht32.form
        have HT32 := hide ht32
        have HC32 := hide hc32
        clear ht32 hc32 hb32 hHeld
        go_wp2_with fail
        refine hK.out _ _ (HSX.out _ HB32.out) (fun hHeld => ?_)
        clear hK K
        try simp only [Act.put, List.setIfInBounds_toArray, List.set_cons_zero, List.set_cons_succ]
        refine wpAnyH_ready (rs := [36]) (by kernel_rfl) (by simp) ?_
        refine AllReadyH.cons rfl (fun K hK => ?_) AllReadyH.nil
        go_simp
        refine (rnormT_calls (K := 80) (HT8.out.below HB32.out) HBP.out.cb HB8.out (by have := HL8.out; omega) (by omega)).mono ?_
        rintro e w33 ⟨v33, M33, rfl, ht33, hc33, hb33⟩
        have HB33 : Hid (Below wc.heap.size wc w33) := bafter HB32.out hb33 (Nat.le_refl _)
        have HBS33 := hide hb33
        obtain ⟨mn, ma, mL, mc, mp, ml, mk, rfl⟩ := ht33.form
        have HT33 := hide ht33
        have HC33 := hide hc33
        clear ht33 hc33 hb33 hHeld
        go_wp2_with fail
        refine hK.out _ _ (HSX.out _ HB33.out) (fun hHeld => ?_)
        clear hK K
        try simp only [Act.put, List.setIfInBounds_toArray, List.set_cons_zero, List.set_cons_succ]
        have HQ32 : Hid (BndT K9 (ps M32)) := bnd_of_cf HC32.out.1 HC32.out.2 HB7.out (by rw [ps_length]; exact HL7.out) hK9
        have HQ33 : Hid (BndT K9 (ps M33)) := bnd_of_cf HC33.out.1 HC33.out.2 HB8.out (by rw [ps_length]; exact HL8.out) hK9
        have hl32 : M32.length ≤ 1000 := by
          have h9 := len_ps HC32.out.1 HC32.out.2
          rw [ps_length] at h9
          have := HL7.out
          omega
        have hl33 : M33.length ≤ 1000 := by
          have h9 := len_ps HC33.out.1 HC33.out.2
          rw [ps_length] at h9
          have := HL8.out
          omega
        have HCB : Hid (c.natAbs < 10 ^ K9) := ten_up HBO.out.cb (by omega)
        have HDB : Hid (d.natAbs < 10 ^ K9) := ten_up HBP.out.cb (by omega)
        have HEB : Hid (decide (c = d ∧ ps M32 = ps M33) = bq) := by
          show _ = _
          rw [HBQ.out]
          exact eq_both HN31.out HC32.out.1 HC33.out.1 HC31.out (fun u => by rw [HC32.out.2, HC7.out]) (fun u => by rw [HC33.out.2, HC8.out])
        refine wpAnyH_ready (rs := [37]) (by kernel_rfl) (by simp) ?_
        refine AllReadyH.cons rfl (fun K hK => ?_) AllReadyH.nil
        go_simp
        refine (rsame_calls (K := K9) (HT32.out.below HBS33.out) HT33.out HCB.out HDB.out HQ32.out HQ33.out hl32 hl33 (by omega)).mono ?_
        rintro e w34 ⟨rfl, hb34⟩
        have HB34 : Hid (Below wc.heap.size wc w34) := bafter HB33.out hb34 (Nat.le_refl _)
        have HBS34 := hide hb34
        rw [HEB.out]
        clear hb34 hHeld hl32 hl33
        go_wp2_with fail
        refine hK.out _ _ (HSX.out _ HB34.out) (fun hHeld => ?_)
        clear hK K
        try simp only [Act.put, List.setIfInBounds_toArray, List.set_cons_zero, List.set_cons_succ]
        refine takeD (i := 38) (v := ?v26) (some 65) rfl (by kernel_rfl) (by kernel_rfl) (by kernel_rfl) (fun _ _ _ h => h) (Or.inl ⟨by rfl, ?hy26⟩) (by assumption) (by rfl) ?rest26
        case hy26 => first | (intro w hSw; (try dsimp only at hSw); obtain ⟨q0, q1, q2, q3, q4, q5, q6, q7, q8, q9, q10, q11, q12, q13⟩ := hSw; go_simp; done) | (intro w hSw; (try dsimp only at hSw); obtain ⟨q0, q1, q2, q3, q4, q5, q6, q7, q8, q9, q10, q11, q12, q13⟩ := hSw; go_simp; with_reducible rfl)
        try simp only [Act.put, List.setIfInBounds_toArray, List.set_cons_zero, List.set_cons_succ]
        refine takeD (i := 39) (v := ?v27) (some 66) rfl (by kernel_rfl) (by kernel_rfl) (by kernel_rfl) (fun _ _ _ h => h) (Or.inl ⟨by rfl, ?hy27⟩) (by assumption) (by rfl) ?rest27
        case hy27 => first | (intro w hSw; (try dsimp only at hSw); obtain ⟨q0, q1, q2, q3, q4, q5, q6, q7, q8, q9, q10, q11, q12, q13⟩ := hSw; go_simp; done) | (intro w hSw; (try dsimp only at hSw); obtain ⟨q0, q1, q2, q3, q4, q5, q6, q7, q8, q9, q10, q11, q12, q13⟩ := hSw; go_simp; with_reducible rfl)
        try simp only [Act.put, List.setIfInBounds_toArray, List.set_cons_zero, List.set_cons_succ]
        refine wpAnyH_ready (rs := [40]) (by kernel_rfl) (by simp) ?_
        refine AllReadyH.cons rfl (fun K hK => ?_) AllReadyH.nil
        go_simp
        refine hK.out _ _ (HSX.out _ HB34.out) (fun hHeld => ?_)
        clear hK K hHeld
        try simp only [Act.put, List.setIfInBounds_toArray, List.set_cons_zero, List.set_cons_succ]
        refine wpAnyH_done (by kernel_rfl) ?_ _
        go_wp2
        go_ret
        exact ⟨rfl, bafter HW4.out HB34.out (Nat.le_refl _)⟩

end Go.Proofs.YtnfplceadkelaaaGreatDoor
