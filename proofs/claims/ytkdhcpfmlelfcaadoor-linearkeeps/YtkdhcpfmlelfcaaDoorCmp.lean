/- The contract of Cmp: -1, 0 or 1, as the numbers are. -/
import Derived.Test.YtkdhcpfmlelfcaaDoorBRows
import Derived.Deep.RegionWith
import Derived.Deep.CutRange
namespace Go.Proofs.YtkdhcpfmlelfcaaDoor
set_option linter.unusedVariables false
set_option linter.unusedSimpArgs false
open Go Go.RowKit Go.Shelf

attribute [local go_sem] Oper.semAt_some

theorem cmpI_lt {a b : Int} (h : a < b) : cmpI a b = -1 := by unfold cmpI; rw [if_pos h]
theorem cmpI_gt {a b : Int} (h : b < a) : cmpI a b = 1 := by unfold cmpI; rw [if_neg (by omega), if_pos h]
theorem cmpI_eq (a : Int) : cmpI a a = 0 := by unfold cmpI; rw [if_neg (by omega), if_neg (by omega)]

theorem cmp_len {us vs : List Nat} (hu : Canon R us) (hv : Canon R vs) (h : us.length ≠ vs.length) : cmpI (us.length : Int) (vs.length : Int) = cmpI (val R us : Int) (val R vs : Int) := by
  rcases Nat.lt_or_gt_of_ne h with h | h
  · have := canon_len_lt R_pos hu.1 hv h
    rw [cmpI_lt (by omega), cmpI_lt (by omega)]
  · have := canon_len_lt R_pos hv.1 hu h
    rw [cmpI_gt (by omega), cmpI_gt (by omega)]

theorem cmp_top {us vs : List Nat} (hu : Small R us) (hv : Small R vs) (hl : us.length = vs.length) {i : Nat} (hi : i < us.length) (hd : us.drop (i + 1) = vs.drop (i + 1)) (h : nth us i ≠ nth vs i) : cmpI (nth us i : Int) (nth vs i : Int) = cmpI (val R us : Int) (val R vs : Int) := by
  have h2 : i < vs.length := by omega
  rcases Nat.lt_or_gt_of_ne h with h | h
  · have := lt_of_top hu i hi h2 hd (by rw [nth_eq hi, nth_eq h2] at h; exact h)
    rw [cmpI_lt (by omega), cmpI_lt (by omega)]
  · have := lt_of_top hv i h2 hi hd.symm (by rw [nth_eq hi, nth_eq h2] at h; exact h)
    rw [cmpI_gt (by omega), cmpI_gt (by omega)]

theorem drop_step {us vs : List Nat} {k : Nat} (hl : us.length = vs.length) (hk : k < us.length) (h : us.drop (us.length - k) = vs.drop (us.length - k)) (he : nth us (us.length - 1 - k) = nth vs (us.length - 1 - k)) : us.drop (us.length - (k + 1)) = vs.drop (us.length - (k + 1)) := by
  rw [nth_eq (by omega), nth_eq (by omega)] at he
  rw [List.drop_eq_getElem_cons (show us.length - (k + 1) < us.length from by omega), List.drop_eq_getElem_cons (show us.length - (k + 1) < vs.length from by omega)]
  simp only [show us.length - (k + 1) = us.length - 1 - k from by omega, show us.length - 1 - k + 1 = us.length - k from by omega]
  rw [he, h]

set_option maxRecDepth 100000 in
set_option maxHeartbeats 4000000 in
theorem cmp_calls (w : World) (sv tv : Value) (xs ys : List Nat) (hx0 : Limbs w sv xs) (hy0 : Limbs w tv ys) (bx : xs.length ≤ 1048576) (byy : ys.length ≤ 1048576) :
    Calls Tryd.prog 43 #[sv, tv] w fun e w' => e = .returned (.int .i64 (cmpI (val R xs) (val R ys))) ∧ Below w.heap.size w w' := by
  obtain ⟨ao, cap, rfl⟩ := hx0.len
  obtain ⟨bo, dap, rfl⟩ := hy0.len
  refine calls_of_marks Tryd.func43 rfl ?_
  simp only [Tryd.ntmps43, List.size_toArray, List.length_cons, List.length_nil, Nat.reduceAdd, Nat.reduceSub, Array.replicate_succ, Array.replicate_zero, List.push_toArray, List.append_toArray, List.nil_append, List.cons_append]
  have b0 := Boxed.new w 22 (.slice bo ys.length dap)
  have b1 := Boxed.new (w.alloc (.cells #[.slice bo ys.length dap] 22)) 3 (.int .i64 0)
  simp only [World.size_alloc] at b1
  have hB0 : Below w.heap.size w ((w.alloc (.cells #[.slice bo ys.length dap] 22)).alloc (.cells #[.int .i64 0] 3)) := ((Below.refl _ w).alloc (Nat.le_refl _) _).alloc (by simp) _
  replace b0 := b0.alloc (.cells #[.int .i64 0] 3)
  go_upto_region 1 with fail
  obtain ⟨W2, hW2⟩ : ∃ W2, (w.alloc (.cells #[.slice bo ys.length dap] 22)).alloc (.cells #[.int .i64 0] 3) = W2 := ⟨_, rfl⟩
  have hs2 : W2.heap.size = w.heap.size + 1 + 1 := by rw [← hW2]; simp
  rw [hW2] at b0 b1 hB0 ⊢
  have c0 := b0.cell
  have f0 := b0.frozen
  have Hs2 := hide hs2
  clear hW2 hs2
  go_cut [0] from 7 to 10 (fun s0 wx => ∃ us ao1 cap1 vs bo1 dap1, s0 = .slice ao1 (List.length us) cap1 ∧ Limbs w (.slice ao1 us.length cap1) us ∧ Canon R us ∧ Hid (val R us = val R xs) ∧ us.length ≤ xs.length ∧
    Limbs w (.slice bo1 (List.length vs) dap1) vs ∧ Canon R vs ∧ Hid (val R vs = val R ys) ∧ vs.length ≤ ys.length ∧ Boxed wx w.heap.size 22 (.slice bo1 vs.length dap1) ∧ Boxed wx (w.heap.size + 1) 3 (.int .i64 0) ∧ Below w.heap.size w wx)
  case first =>
    go_region_with (first
      | (go_at_call_of 47 (Value.slice ao xs.length cap); refine (trim_from w W2 _ hB0 ?_ _ xs hx0).mono ?_; (first | exact Below.refl _ _ | exact (Below.refl _ _).drew | exact (Below.refl _ _).drew.drew); rintro e w1 ⟨us, ao1, cap1, rfl, hx, hcu, evx, hlx, hb1⟩; have c1 := (boxed_keep b0 hb1).cell)
      | (go_at_call_of 47 (Value.slice bo ys.length dap); refine (trim_from w W2 _ hB0 hb1 _ ys hy0).mono ?_; rintro e w2 ⟨vs, bo1, dap1, rfl, hy, hcv, evy, hly, hb2⟩; have d0 := boxed_keep b0 hb2; have e0 := d0.cell; have g0 := d0.frozen))
    all_goals
      go_wp2_with fail
      go_meet
      have hB3 : Below w.heap.size w (w2.setCell ⟨w.heap.size, 0, none⟩ (.slice bo1 vs.length dap1)) := (hB0.trans (hb2.mono hB0.size)).setCell (p := ⟨w.heap.size, 0, none⟩) (Nat.le_refl _) _
      exact ⟨us, ao1, cap1, vs, bo1, dap1, rfl, hx, hcu, evx, hlx, hy, hcv, evy, hly, d0.set _, (boxed_keep b1 hb2).other (by simp) _, hB3⟩
  case rest =>
    obtain ⟨us, ao1, cap1, vs, bo1, dap1, rfl, hx, hcu, evx, hlx, hy, hcv, evy, hly, d0, d1, hB⟩ := hcut
    clear b0 b1 c0 f0 hB0 Hs2
    have e0 := d0.cell
    have e1 := d1.cell
    have f1 := d1.frozen
    by_cases hl : us.length = vs.length
    · have hl' : ((us.length : Int) != (vs.length : Int)) = false := by simp [hl]
      have Hl := hide hl
      clear hl
      go_wp2_with (go_at_call 60; refine (fromTop_calls _ _ ⟨_, _, _, rfl⟩).mono ?_; rintro e w' ⟨rfl, rfl⟩)
      obtain ⟨Wr, hWr⟩ : ∃ Wr, wc.alloc (.cells #[.slice ao1 us.length cap1] 22) = Wr := ⟨_, rfl⟩
      have b2 := Boxed.new wc 22 (.slice ao1 us.length cap1)
      have hsz := hB.size
      have d0' := d0.alloc (.cells #[.slice ao1 us.length cap1] 22)
      have d1' := d1.alloc (.cells #[.slice ao1 us.length cap1] 22)
      have hB' := hB.alloc hsz (.cells #[.slice ao1 us.length cap1] 22)
      have hszr : w.heap.size ≤ (wc.alloc (.cells #[.slice ao1 us.length cap1] 22)).heap.size := hB'.size
      have hlt1 := d1'.lt
      rw [hWr] at b2 d0' d1' hB' hszr hlt1 ⊢
      clear hWr
      have hxc := hx.cells
      have hyc := hy.cells
      have hlu : us.length ≤ 1048576 := by omega
      refine range_plain (gf := 77) (lb := #[.pointer (some ⟨wc.heap.size, 0, none⟩)]) rfl (enters_of Tryd.func77 (by kernel_rfl) rfl)
        (top_hands wc.heap.size ao1 us.length cap1 (fun k => ((nth us (us.length - 1 - k) : Nat) : Int)) (by omega)) (fun _ => rfl)
        (fun k W => (Boxed W w.heap.size 22 (.slice bo1 vs.length dap1) ∧ Boxed W (w.heap.size + 1) 3 (.int .i64 0) ∧ Boxed W wc.heap.size 22 (.slice ao1 us.length cap1) ∧ us.drop (us.length - k) = vs.drop (us.length - k)) ∧ Below w.heap.size w W)
        (fun c k W => (c = .ret ∧ Boxed W (w.heap.size + 1) 3 (.int .i64 (cmpI (val R us) (val R vs)))) ∧ Below w.heap.size w W)
        (OwnFrom.and (OwnFrom.and (own_boxed _ _ _ _) (OwnFrom.and (own_boxed _ _ _ _) (OwnFrom.and (own_boxed _ _ _ _) (ownFrom_pure _ _)))) (ownFrom_below (Nat.le_refl _) hszr))
        (fun c => OwnFrom.and (OwnFrom.and (ownFrom_pure _ _) (own_boxed _ _ _ _)) (ownFrom_below (Nat.le_refl _) hszr))
        ?know ⟨⟨d0', d1', b2, by have := Hl.out; simp [this]⟩, hB'⟩
        (fun k => { tmps := #[.slice ao1 us.length cap1, .slice bo ys.length dap, undef, .pointer (some ⟨w.heap.size, 0, none⟩), .pointer (some ⟨w.heap.size + 1, 0, none⟩), .int .i64 ((us.length : Int) - 1 - k), .int .u32 ((nth us (us.length - 1 - k) : Nat) : Int), u7, u8, u9, u10,
          .slice ao1 us.length cap1, .int .i64 us.length, .slice bo1 vs.length dap1, .int .i64 vs.length, .bool false, undef, undef, undef, undef, undef, .slice ao1 us.length cap1, .func (.func 77) #[] #[.pointer (some ⟨wc.heap.size, 0, none⟩)], .int .i64 ((us.length : Int) - 1 - k), .int .u32 ((nth us (us.length - 1 - k) : Nat) : Int),
          undef, undef, undef, undef, undef, undef, undef, undef, undef, undef, undef, undef], defers := [] }) ?assign ?body ?done ?stop
      case know =>
        rintro k W ⟨⟨_, _, hb, _⟩, hB⟩
        refine ⟨hb.cell, fun hk => ?_⟩
        obtain ⟨b, off, e, hc⟩ := hxc (us.length - 1 - k) (by omega)
        exact ⟨b, off, e, (hB.cell (p := ⟨b, off + (us.length - 1 - k), none⟩) (block_lt_of_cell hc)).trans hc⟩
      case assign =>
        intro l k W K hk hK
        gi_wp2
        exact hK
      case body =>
        rintro l k W hk ⟨⟨hb0, hb1, hb2, hz⟩, hB⟩
        have c0 := hb0.cell
        have c1 := hb1.cell
        have f1 := hb1.frozen
        have hl2 := Hl.out
        obtain ⟨b, off, rfl, hc⟩ := hyc (us.length - 1 - k) (by omega)
        have c2 := (hB.cell (p := ⟨b, off + (us.length - 1 - k), none⟩) (block_lt_of_cell hc)).trans hc
        have hkv : k < vs.length := by omega
        have hix : us.length - 1 - k < vs.length := by omega
        have Hyc := hide hyc
        have Hxc := hide hxc
        clear hc hyc hxc hl2
        by_cases hv : nth us (us.length - 1 - k) = nth vs (us.length - 1 - k)
        · have hv' : (((nth us (us.length - 1 - k) : Nat) : Int) != ((nth vs (us.length - 1 - k) : Nat) : Int)) = false := by simp [hv]
          have Hv := hide hv
          clear hv
          gi_wp2
          exact ⟨KeepsFrom.refl _ _, ⟨hb0, hb1, hb2, drop_step Hl.out hk hz Hv.out⟩, hB⟩
        · have hv' : (((nth us (us.length - 1 - k) : Nat) : Int) != ((nth vs (us.length - 1 - k) : Nat) : Int)) = true := by simp; omega
          have Hc := hide (cmp_top hcu.1 hcv.1 Hl.out (show us.length - 1 - k < us.length from by omega) (by rw [show us.length - 1 - k + 1 = us.length - k from by omega]; exact hz) hv)
          clear hv
          gi_wp2_with (refine ⟨trivial, ?_⟩; gi_at_call 61; refine (CallsIn.inRound l (callsIn_wide.2 (compareU_calls _ _ _))).mono ?_; rintro e w' ⟨rfl, rfl⟩)
          exact ⟨(KeepsOthers.setCell _ _ _).from _, ⟨rfl, by rw [← Hc.out]; exact hb1.set _⟩, hB.setCell (p := ⟨w.heap.size + 1, 0, none⟩) (by simp) _⟩
      case done =>
        rintro D W hD ⟨⟨hb0, hb1, hb2, hz⟩, hB⟩ hK
        have c1 := hb1.cell
        have f1 := hb1.frozen
        have he : us = vs := by simpa using hz
        have He : Hid (cmpI (val R xs) (val R ys) = 0) := by
          show _ = _
          rw [← evx.out, ← evy.out, he]; exact cmpI_eq _
        clear he hz
        go_wp2
        have hb3 := hb1.set (.int .i64 0)
        have hK' := (KeepsOthers.setCell W ⟨w.heap.size + 1, 0, none⟩ (.int .i64 0)).same D _ hK rfl
        refine ⟨by simp, .inl ⟨_, _, rfl, run_takeDeferred hK', ?_⟩⟩
        have hc5 := cell_kept hb3.cell (grownBy_putObj' _ D (.deferred none)) (fun r e => by cases e; exact ⟨_, hK', rfl⟩)
        refine ⟨.int .i64 0, ?_, by rw [He.out], (hB.setCell (p := ⟨w.heap.size + 1, 0, none⟩) (by simp) _).trans (belowK_b (w := w) (Nat.le_refl _) _ D _ _ (by omega) hK' rfl rfl)⟩
        simp [results, Tryd.f43, go_sem, hc5]
      case stop =>
        rintro D c k W hD hk ⟨⟨rfl, hb1⟩, hB⟩ hK
        have He : Hid (cmpI (val R xs) (val R ys) = cmpI (val R us) (val R vs)) := by
          show _ = _
          rw [evx.out, evy.out]
        go_wp2
        refine ⟨by simp, .inl ⟨_, _, rfl, run_takeDeferred hK, ?_⟩⟩
        have hc5 := cell_kept hb1.cell (grownBy_putObj' _ D (.deferred none)) (fun r e => by cases e; exact ⟨_, hK, rfl⟩)
        refine ⟨.int .i64 (cmpI (val R us) (val R vs)), ?_, by rw [He.out], hB.trans (belowK_b (w := w) (Nat.le_refl _) W D _ _ (by omega) hK rfl rfl)⟩
        simp [results, Tryd.f43, go_sem, hc5]
    · have hl' : ((us.length : Int) != (vs.length : Int)) = true := by simp; omega
      have Hc := hide (cmp_len hcu hcv hl)
      clear hl
      go_wp2_with (go_at_call 40; refine (compareInt_calls _ _ _).mono ?_; rintro e w' ⟨rfl, rfl⟩)
      have hc5 := (d1.set (.int .i64 (cmpI (us.length : Int) (vs.length : Int)))).cell
      refine ⟨.int .i64 (cmpI (us.length : Int) (vs.length : Int)), ?_, by rw [Hc.out, evx.out, evy.out], hB.setCell (p := ⟨w.heap.size + 1, 0, none⟩) (by simp) _⟩
      simp [results, Tryd.f43, go_sem, hc5]

end Go.Proofs.YtkdhcpfmlelfcaaDoor
