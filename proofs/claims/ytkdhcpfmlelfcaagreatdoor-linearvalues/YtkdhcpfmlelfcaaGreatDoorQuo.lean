/- The contracts of DivMod and Gcd. -/
import Derived.Test.YtkdhcpfmlelfcaaGreatDoorLong
import Derived.Test.YtkdhcpfmlelfcaaGreatDoorCmp
import Derived.Test.YtkdhcpfmlelfcaaGreatDoorBTake
import Derived.Test.YtkdhcpfmlelfcaaGreatDoorSmall2
namespace Go.Proofs.YtkdhcpfmlelfcaaGreatDoor
set_option linter.unusedVariables false
set_option linter.unusedSimpArgs false
open Go Go.RowKit Go.Shelf

theorem canon_len_le {us vs : List Nat} (hu : Canon R us) (hv : Canon R vs) (h : val R vs ≤ val R us) : vs.length ≤ us.length := by
  rcases Nat.lt_or_ge us.length vs.length with h1 | h1
  · have := canon_len_lt R_pos hu.1 hv h1
    omega
  · exact h1

theorem trim_front (w0 w : World) (g cap : Nat) (zs rest : List Nat) (n v : Nat) (hn : zs.length = n) (hrow : Row w g (zs ++ rest)) (hs : Small R (zs ++ rest)) (hg : w0.heap.size ≤ g) (hc1 : n ≤ cap) (hc2 : cap ≤ (zs ++ rest).length) (hb : (zs ++ rest).length ≤ 70368744177664) (hv : val R zs = v) :
    Calls Tryz.prog 107 #[.slice (some ⟨g, 0, none⟩) n cap] w fun e w' => ∃ bo m dap, e = .returned (.slice bo m dap) ∧ Answer w0 w' (.slice bo m dap) v ∧ Below w.heap.size w w' := by
  subst hn
  have hsz : Small R zs := fun x hx => hs x (by simp [hx])
  have hlim := hrow.limbs hs 0 zs.length cap (by simp) hc1 (by omega)
  rw [List.drop_zero, List.take_left] at hlim
  refine (trim_calls _ _ _ zs hlim).mono ?_
  rintro e w2 ⟨rfl, hb2⟩
  have hm : Made w0.heap.size w2 (trimmed (some ⟨g, 0, none⟩) cap zs) (trm zs) := by
    unfold trimmed
    by_cases hz : tl zs = 0
    · rw [if_pos hz, trm_nil_of hz]; exact Made.nil _ _
    · rw [if_neg hz]
      have := tl_le zs
      refine ⟨hsz.trm, .inr ⟨g, zs ++ rest, cap, by rw [trm_length], hg, by rw [trm_length]; omega, hc2, hb, hs, hrow.keep hb2, ?_⟩⟩
      rw [trm_length, List.take_append_of_le_length this]
      rfl
  obtain ⟨bo, dap, hf⟩ := trimmed_form (some ⟨g, 0, none⟩) cap zs
  rw [hf] at hm ⊢
  exact ⟨_, _, _, rfl, ⟨_, hm, canon_trm hsz, by rw [val_trm, hv]⟩, hb2⟩

theorem divideBy_at (w : World) (g cap d n : Nat) (zs rest : List Nat) (hn : zs.length = n) (hrow : Row w g (zs ++ rest)) (hs : Small R zs) (hc : n ≤ cap) (hcap : cap ≤ 70368744177664) (hb : n ≤ 1048577) (hd : 0 < d) (hd2 : d < 4294967296) :
    Calls Tryz.prog 136 #[.slice (some ⟨g, 0, none⟩) n cap, .int .u32 (d : Int)] w fun e w' => ∃ (qs : List Nat) (r : Nat), e = .returned (.int .u32 (r : Int)) ∧ Hid (r = val R zs % d) ∧ r < d ∧ Hid (qs.length = n) ∧ Small R qs ∧ Hid (val R qs = val R zs / d) ∧ Row w' g (qs ++ rest) ∧ But g w w' := by
  subst hn
  refine (divideBy_calls w g cap d zs rest hrow hs hc hcap hb hd hd2).mono ?_
  rintro e w' ⟨qs, h1, h2, h3, h4, h5, h6⟩
  exact ⟨qs, _, h1, rfl, Nat.mod_lt _ hd, h2, h3, h4, h5, h6⟩

set_option maxRecDepth 100000 in
set_option maxHeartbeats 4000000 in
theorem divMod_calls (w : World) (sv tv : Value) (xs ys : List Nat) (hx0 : Limbs w sv xs) (hy0 : Limbs w tv ys) (bx : xs.length ≤ 1048576) (byy : ys.length ≤ 1048576) :
    Calls Tryz.prog 119 #[sv, tv] w fun e w' => (val R ys = 0 → e = .returned (.tuple #[.slice none 0 0, .slice none 0 0, .int .i64 4])) ∧
      (val R ys ≠ 0 → ∃ q r, e = .returned (.tuple #[q, r, .int .i64 0]) ∧ Answer w w' q (val R xs / val R ys) ∧ Answer w w' r (val R xs % val R ys)) ∧ Below w.heap.size w w' := by
  obtain ⟨ao, cap, rfl⟩ := hx0.len
  obtain ⟨bo, dap, rfl⟩ := hy0.len
  go_enter Tryz.func119, Tryz.ntmps119
  go_wp2_with fail
  refine (trim_lim _ _ _ hx0).mono ?_
  rintro e w1 ⟨us, ao1, cap1, rfl, hx, hcu, evx, hlx, hb1⟩
  go_wp2_with fail
  refine (trim_lim _ _ _ (hy0.below hb1)).mono ?_
  rintro e w2 ⟨vs, bo1, dap1, rfl, hy, hcv, evy, hly, hb2⟩
  replace hx := (hx.below hb1).below hb2
  replace hy := hy.below hb2
  have hb02 : Below w.heap.size w w2 := hb1.trans (hb2.mono hb1.size)
  have hsz := hb02.size
  clear hx0 hy0 hb1 hb2
  by_cases hz : vs.length = 0
  · have hz' : ((vs.length : Int) == 0) = true := by simp [hz]
    have hv0 : val R ys = 0 := by rw [← evy.out, List.eq_nil_of_length_eq_zero hz]; rfl
    have Hv0 := hide hv0
    clear hz hv0
    go_wp2
    go_ret3
    exact ⟨fun _ => rfl, fun h => absurd Hv0.out h, hb02⟩
  · have hz' : ((vs.length : Int) == 0) = false := beq_eq_false_iff_ne.2 (by omega)
    have hv0 : val R ys ≠ 0 := by rw [← evy.out]; intro e; exact hz (by rw [hcv.val_zero R_pos e]; rfl)
    have Hv0 := hide hv0
    clear hv0
    go_wp2_with fail
    refine (cmp_calls _ _ _ _ _ hx hy (by omega) (by omega)).mono ?_
    rintro e w3 ⟨rfl, hb3⟩
    replace hx := hx.below hb3
    replace hy := hy.below hb3
    have hb03 : Below w.heap.size w w3 := hb02.trans (hb3.mono hsz)
    have hsz3 := hb03.size
    clear hb3 hb02
    by_cases hlt0 : val R us < val R vs
    · have hc : cmpI (val R us : Int) (val R vs : Int) = -1 := cmpI_lt (by omega)
      rw [hc]
      have H0 := hide hlt0
      clear hc hlt0
      go_wp2_with fail
      refine (norm_calls _ _ _ hx (by omega)).mono ?_
      rintro e w4 ⟨rv, rfl, hA, hb4⟩
      have hrv : ∃ a l c, rv = .slice a l c := by
        obtain ⟨zs, hm, _, _⟩ := hA
        obtain ⟨a, c, e, _⟩ := hm.limbs
        exact ⟨a, _, c, e⟩
      obtain ⟨ra, rl, rc, rfl⟩ := hrv
      go_wp2
      go_ret3
      refine ⟨fun h => absurd h Hv0.out, fun _ => ⟨_, _, rfl, ?_, ?_⟩, hb03.trans (hb4.mono hsz3)⟩
      · refine ⟨[], Made.nil _ _, canon_nil R, ?_⟩
        rw [← evx.out, ← evy.out, Nat.div_eq_of_lt H0.out]; rfl
      · obtain ⟨zs, hm, hc, hv⟩ := hA
        exact ⟨zs, hm.mono hsz3, hc, by rw [hv, ← evx.out, ← evy.out, Nat.mod_eq_of_lt H0.out]⟩
    · have hc : 0 ≤ cmpI (val R us : Int) (val R vs : Int) := by
        unfold cmpI; rw [if_neg (by omega)]; split <;> omega
      have hll := canon_len_le hcu hcv (by omega)
      have H0 := hide hlt0
      clear hlt0
      generalize cmpI (val R us : Int) (val R vs : Int) = cc at *
      by_cases h1 : vs.length = 1
      · have h1' : ((vs.length : Int) == 1) = true := by simp [h1]
        have hd0 : 0 < nth vs 0 := canon_top hcv h1
        have hd1 : nth vs 0 < 4294967296 := by have := hcv.1.nth R_pos 0; rw [R_eq] at this; exact this
        have hvd : val R vs = nth vs 0 := by
          have := val_take_nth R vs 0
          rw [List.take_of_length_le (by omega)] at this
          simpa [val] using this
        obtain ⟨b, off, rfl, hcd⟩ := hy.cells 0 (by omega)
        have Hvd := hide hvd
        have H1 := hide h1
        have hus : 0 < us.length := by omega
        have hv1 : 1 ≤ vs.length := by omega
        clear hvd h1
        go_wp2_with fail
        refine (norm_calls _ _ _ hx (by omega)).mono ?_
        rintro e w4 ⟨rv, rfl, hA, hb4⟩
        obtain ⟨zs, ⟨hsz', hm⟩, hcz, hvz⟩ := hA
        have hzu : zs = us := hcz.unique R_pos hcu hvz
        subst hzu
        rcases hm with ⟨_, rfl⟩ | ⟨g, full, gcap, rfl, hg, hgc1, hgc2, hgc3, hsf, hrf, htf⟩
        · simp at hus
        have hfull : full = zs ++ full.drop zs.length := by conv => lhs; rw [← List.take_append_drop zs.length full, htf]
        obtain ⟨rest, hrest⟩ : ∃ rest, full.drop zs.length = rest := ⟨_, rfl⟩
        rw [hrest] at hfull
        subst hfull
        have hcd4 := (hb4.cell (p := ⟨b, off + 0, none⟩) (block_lt_of_cell hcd)).trans hcd
        rw [Nat.add_zero] at hcd4
        have hfl : (zs ++ rest).length ≤ 70368744177664 := hgc3
        have Hgc2 := hide hgc2
        clear htf hrest hcz hvz hgc2 hgc3 hcd
        go_wp2_with fail
        refine (divideBy_at w4 g gcap (nth vs 0) zs.length zs rest rfl hrf hsz' hgc1 (by have := Hgc2.out; omega) (by omega) hd0 hd1).mono ?_
        rintro e w5 ⟨qs, r, rfl, hr, hrlt, hql, hqs, hqv, hR5, hBut5⟩
        have hs5 : Small R (qs ++ rest) := hqs.append (fun x hx => hsf x (by simp [hx]))
        have hgw : w.heap.size ≤ g := by omega
        go_wp2_with fail
        refine (trim_front w w5 g gcap qs rest zs.length _ hql.out hR5 hs5 hgw hgc1 (by have := Hgc2.out; have := hql.out; simp at *; omega) (by have := hfl; have := hql.out; simp at *; omega) hqv.out).mono ?_
        rintro e w6 ⟨qa, qm, qc, rfl, hAq, hb6⟩
        go_wp2_with fail
        refine (of_calls _ r (by omega)).mono ?_
        rintro e w7 ⟨rv, rfl, hAr, hb7⟩
        have hrv : ∃ a l c, rv = .slice a l c := by
          obtain ⟨es, hm, _, _⟩ := hAr
          obtain ⟨a, c, e, _⟩ := hm.limbs
          exact ⟨a, _, c, e⟩
        obtain ⟨ra, rl, rc, rfl⟩ := hrv
        have h34 := hb4.size
        have h45 := hBut5.size
        have h56 := hb6.size
        have hB5 : Below w.heap.size w w5 := (hb03.trans (hb4.mono hsz3)).trans (hBut5.below hgw (by omega))
        have hB7 : Below w.heap.size w w7 := (hB5.trans (hb6.mono (by omega))).trans (hb7.mono (by omega))
        have hAq7 := hAq.below hb7
        go_wp2
        go_ret3
        refine ⟨fun h => absurd h Hv0.out, fun _ => ⟨_, _, rfl, ?_, ?_⟩, hB7⟩
        · obtain ⟨es, hm, hc, hv⟩ := hAq7
          exact ⟨es, hm, hc, by rw [hv, ← Hvd.out, evx.out, evy.out]⟩
        · obtain ⟨es, hm, hc, hv⟩ := hAr
          exact ⟨es, hm.mono (by omega), hc, by rw [hv, hr.out, ← Hvd.out, evx.out, evy.out]⟩
      · have h1' : ((vs.length : Int) == 1) = false := beq_eq_false_iff_ne.2 (by omega)
        obtain ⟨n, hn⟩ : ∃ n, vs.length = n + 2 := ⟨vs.length - 2, by omega⟩
        have Hn := hide hn
        clear hn
        go_wp2_with fail
        refine (long_calls _ _ _ us vs hx hy hcu hcv n us.length Hn.out rfl (by have := Hn.out; omega) (by omega)).mono ?_
        rintro e w4 ⟨q, r, rfl, hq, hr, hb4⟩
        have hqv : ∃ a l c, q = .slice a l c := by
          obtain ⟨zs, hm, _, _⟩ := hq
          obtain ⟨a, c, e, _⟩ := hm.limbs
          exact ⟨a, _, c, e⟩
        have hrv : ∃ a l c, r = .slice a l c := by
          obtain ⟨zs, hm, _, _⟩ := hr
          obtain ⟨a, c, e, _⟩ := hm.limbs
          exact ⟨a, _, c, e⟩
        obtain ⟨qa, ql, qc, rfl⟩ := hqv
        obtain ⟨ra, rl, rc, rfl⟩ := hrv
        go_wp2
        go_ret3
        refine ⟨fun h => absurd h Hv0.out, fun _ => ⟨_, _, rfl, ?_, ?_⟩, hb03.trans (hb4.mono hsz3)⟩
        · obtain ⟨zs, hm, hc, hv⟩ := hq
          exact ⟨zs, hm.mono hsz3, hc, by rw [hv, evx.out, evy.out]⟩
        · obtain ⟨zs, hm, hc, hv⟩ := hr
          exact ⟨zs, hm.mono hsz3, hc, by rw [hv, evx.out, evy.out]⟩

end Go.Proofs.YtkdhcpfmlelfcaaGreatDoor
