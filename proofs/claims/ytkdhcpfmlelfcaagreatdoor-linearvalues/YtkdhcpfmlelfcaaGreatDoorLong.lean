/- The contract of longDivide: quotient and rest, by Knuth's long division. -/
import Derived.Test.YtkdhcpfmlelfcaaGreatDoorBKnuth
import Derived.Test.YtkdhcpfmlelfcaaGreatDoorBShift
import Derived.Test.YtkdhcpfmlelfcaaGreatDoorLz
import Derived.Deep.RegionWith
import Derived.Deep.CutRange
import Derived.Deep.DeepMust
namespace Go.Proofs.YtkdhcpfmlelfcaaGreatDoor
set_option linter.unusedVariables false
set_option linter.unusedSimpArgs false
open Go Go.RowKit Go.Shelf

attribute [local go_sem] Oper.semAt_some

theorem val_top_lt {xs : List Nat} {k : Nat} (h : Small R xs) (hl : xs.length = k + 1) : val R xs < R ^ k * (nth xs k + 1) := by
  have e := val_take_nth R xs k
  rw [List.take_of_length_le (by omega)] at e
  have hs := val_lt (h.take k)
  rw [show (xs.take k).length = k from by rw [List.length_take]; omega] at hs
  rw [Nat.mul_add]
  omega

theorem val_top_ge {xs : List Nat} {k : Nat} (hl : xs.length = k + 1) : R ^ k * nth xs k ≤ val R xs := by
  have e := val_take_nth R xs k
  rw [List.take_of_length_le (by omega)] at e
  omega

theorem shift_top {vs : List Nat} {k s : Nat} (h : Small R vs) (hl : vs.length = k + 1) (hs : s ≤ 31) (ht : nth vs k * 2 ^ s < 4294967296) : val R vs * 2 ^ s < R ^ (k + 1) := by
  have h1 := val_top_lt h hl
  have h2 : (nth vs k + 1) * 2 ^ s ≤ R := by
    have e := R_split hs
    have h3 : nth vs k < 2 ^ (32 - s) := Nat.lt_of_mul_lt_mul_right (a := 2 ^ s) (by rw [← e, R_eq]; exact ht)
    rw [e]
    exact Nat.mul_le_mul_right _ h3
  have h4 : val R vs * 2 ^ s < R ^ k * (nth vs k + 1) * 2 ^ s := Nat.mul_lt_mul_of_pos_right h1 (pow_pos2 s)
  rw [Nat.mul_assoc] at h4
  have h5 := Nat.mul_le_mul_left (R ^ k) h2
  rw [Nat.pow_succ]
  omega

theorem take_all {zs : List Nat} {k : Nat} (hl : zs.length = k + 1) (h : val R zs < R ^ k) : val R (zs.take k) = val R zs := by
  have e := val_split R zs k (by omega)
  have : val R (zs.drop k) = 0 := by
    rcases Nat.eq_zero_or_pos (val R (zs.drop k)) with h0 | h0
    · exact h0
    · have := Nat.mul_le_mul_left (R ^ k) h0
      omega
  rw [this] at e
  omega

theorem top_set {ds vs : List Nat} {k s : Nat} (hd : Small R ds) (hld : ds.length = k + 1) (hlv : vs.length = k + 1) (hv : val R ds = val R vs * 2 ^ s) (ht : 2147483648 ≤ nth vs k * 2 ^ s) : 2147483648 ≤ nth ds k := by
  have h1 := val_top_lt hd hld
  have h2 := Nat.mul_le_mul_right (2 ^ s) (val_top_ge hlv)
  rw [Nat.mul_assoc, ← hv] at h2
  have h3 := Nat.lt_of_mul_lt_mul_left (Nat.lt_of_le_of_lt h2 h1)
  omega

theorem canon_top {vs : List Nat} {k : Nat} (h : Canon R vs) (hl : vs.length = k + 1) : 0 < nth vs k := by
  rcases Nat.eq_zero_or_pos (nth vs k) with h0 | h0
  · exfalso
    have h1 : tl vs ≤ k := by
      rcases Nat.lt_or_ge k (tl vs) with h2 | h2
      · exfalso
        have h3 : tl (vs.take (tl vs)) = (vs.take (tl vs)).length := tl_trm vs
        -- the last digit of a list in its one form is not 0
        have : ∀ xs : List Nat, tl xs = xs.length → ∀ k, xs.length = k + 1 → nth xs k ≠ 0 := by
          intro xs
          induction xs with
          | nil => intro _ k hk; simp at hk
          | cons x r ih =>
            intro ht k hk
            cases k with
            | zero =>
              have hr : r = [] := by simpa using hk
              subst hr
              simp [tl] at ht
              simp [nth]; omega
            | succ k =>
              have hr : tl r = r.length := by
                simp only [tl, List.length_cons] at ht
                by_cases hz : tl r = 0
                · rw [if_pos hz] at ht
                  simp only [List.length_cons] at hk
                  split at ht <;> omega
                · rw [if_neg hz] at ht; omega
              have := ih hr k (by simpa using hk)
              simpa [nth] using this
        exact this vs h.2 k hl h0
      · exact h2
    have := h.2
    omega
  · exact h0

/-- An answer outlasts a store into memory that is older than it, and the turn of a block that is no cells. -/
theorem Answer.last {w0 w4 W : World} {rv : Value} {n D : Nat} {p : Addr} {o : Obj} (v : Value) (o' : Obj) (h : Answer w4 W rv n) (hp : p.block < w4.heap.size) (hw : w0.heap.size ≤ w4.heap.size) (hK : (W.setCell p v).heap[D]? = some o) (ho : o.isCells = false) : Answer w0 ((W.setCell p v).putObj D o') rv n := by
  obtain ⟨zs, ⟨hs, h | ⟨g, full, cap, rfl, h1, h2, h3, h4, h5, h6, h7⟩⟩, hc, hv⟩ := h
  · exact ⟨zs, ⟨hs, .inl h⟩, hc, hv⟩
  · exact ⟨zs, ⟨hs, .inr ⟨g, full, cap, rfl, by omega, h2, h3, h4, h5, (h6.other (a := p) (by omega) v).putObj hK ho o', h7⟩⟩, hc, hv⟩

set_option maxRecDepth 100000 in
set_option maxHeartbeats 4000000 in
theorem long_calls (w : World) (sv tv : Value) (us vs : List Nat) (hx : Limbs w sv us) (hy : Limbs w tv vs) (hcu : Canon R us) (hcv : Canon R vs) (n m : Nat) (hlv : vs.length = n + 2) (hlu : us.length = m) (hmn : n + 2 ≤ m) (bm : m ≤ 1048576) :
    Calls Tryz.prog 137 #[sv, tv] w fun e w' => ∃ q r, e = .returned (.tuple #[q, r]) ∧ Answer w w' q (val R us / val R vs) ∧ Answer w w' r (val R us % val R vs) ∧ Below w.heap.size w w' := by
  obtain ⟨ao, cap, rfl⟩ := hx.len
  obtain ⟨bo, dap, rfl⟩ := hy.len
  have Hlu := hide hlu
  have Hlv := hide hlv
  rw [hlu] at hx ⊢
  rw [hlv] at hy ⊢
  have hyc := hy.cells
  obtain ⟨b, off, rfl, hc⟩ := hyc (n + 1) (by omega)
  clear hlu hlv hyc
  have htop0 : 0 < nth vs (n + 1) := canon_top hcv Hlv.out
  have htop1 : nth vs (n + 1) < 4294967296 := by have := hcv.1.nth R_pos (n + 1); rw [R_eq] at this; exact this
  obtain ⟨hs31, hslo, hshi⟩ := lz_bounds htop0 htop1
  obtain ⟨s, hs⟩ : ∃ s, lz (nth vs (n + 1)) = s := ⟨_, rfl⟩
  rw [hs] at hs31 hslo hshi
  refine calls_of_marks Tryz.func137 rfl ?_
  simp only [Tryz.ntmps137, List.size_toArray, List.length_cons, List.length_nil, Nat.reduceAdd, Nat.reduceSub, Array.replicate_succ, Array.replicate_zero, List.push_toArray, List.append_toArray, List.nil_append, List.cons_append]
  have b0 := Boxed.new w 22 (.slice (some ⟨b, off, none⟩) (n + 2) dap)
  have b1 := Boxed.new (w.alloc (.cells #[.slice (some ⟨b, off, none⟩) (n + 2) dap] 22)) 22 (.slice none 0 0)
  simp only [World.size_alloc] at b1
  have hB0 : Below w.heap.size w ((w.alloc (.cells #[.slice (some ⟨b, off, none⟩) (n + 2) dap] 22)).alloc (.cells #[.slice none 0 0] 22)) := ((Below.refl _ w).alloc (Nat.le_refl _) _).alloc (by simp) _
  replace b0 := b0.alloc (.cells #[.slice none 0 0] 22)
  have hc' := (hB0.cell (p := ⟨b, off + (n + 1), none⟩) (block_lt_of_cell hc)).trans hc
  go_upto_region 2 with (go_at_call 148; refine (leading_calls _ _ htop0 htop1).mono ?_; rintro e w' ⟨rfl, rfl⟩)
  obtain ⟨W2, hW2⟩ : ∃ W2, (w.alloc (.cells #[.slice (some ⟨b, off, none⟩) (n + 2) dap] 22)).alloc (.cells #[.slice none 0 0] 22) = W2 := ⟨_, rfl⟩
  have hz2 : W2.heap.size = w.heap.size + 1 + 1 := by rw [← hW2]; simp
  rw [hW2] at b0 b1 hB0 ⊢
  have Hz2 := hide hz2
  have hle2 : w.heap.size + 1 < W2.heap.size := by omega
  have hle2' : w.heap.size < W2.heap.size := by omega
  have hy2 := hy.below hB0
  have hx2 := hx.below hB0
  have c0 := b0.cell
  clear hW2 hz2 hc' hc
  go_cut [7] from 19 to 24 (fun s7 wx => ∃ (g7 h : Nat) (ds dt : List Nat), s7 = .pointer (some ⟨g7, 0, none⟩) ∧ Boxed wx g7 22 (.slice (some ⟨h, 0, none⟩) (n + 2) (n + 2 + 1)) ∧ Row wx h (ds ++ dt) ∧ W2.heap.size ≤ h ∧ W2.heap.size ≤ g7 ∧ g7 ≠ h ∧ ds.length = n + 2 ∧ Small R ds ∧ Hid (val R ds = val R vs * 2 ^ s) ∧ Below W2.heap.size W2 wx)
  case first =>
    go_region_with (go_at_call 149; go_must (refine (left_from W2 _ ?_ _ vs s hy2 (by have := Hlv.out; omega) (by omega)).mono ?_; (first | exact Below.refl _ _ | exact (Below.refl _ _).drew | exact ((Below.refl _ _).alloc (Nat.le_refl _) _).drew); rintro e w3 ⟨h, zs, rfl, hgh, hrow3, hsm3, hl3, hv3, hb3, hb23, hgh2⟩; have c3 := (boxed_keep b0 hb23).cell; have hlt3 : w.heap.size < w3.heap.size := (by have := hb23.size; omega); have hl3' : zs.length = n + 2 + 1 := (by have := Hlv.out; omega); rw [hl3']; (first | (have d4 : Boxed w3 W2.heap.size 22 (.slice none 0 0) := boxed_keep (Boxed.new W2 22 (.slice none 0 0)) (below_undrew hb3); have e4 := d4.cell; have f4 := d4.frozen) | skip)))
    all_goals
      go_wp2_with fail
      go_meet
      have hvz := shift_top (k := n + 1) hcv.1 Hlv.out hs31 hshi
      have hlz : zs.length = n + 2 + 1 := hl3'
      have hvd : Hid (val R (zs.take (n + 2)) = val R vs * 2 ^ s) := by
        show _ = _
        rw [take_all hlz (by rw [hv3.out]; exact hvz), hv3.out]
      have hld : (zs.take (n + 2)).length = n + 2 := by rw [List.length_take, hlz]; omega
      have hb23s := hb23.size
      have hh3 := hrow3.lt
      have hrz : zs.take (n + 2) ++ zs.drop (n + 2) = zs := List.take_append_drop _ _
      first
        | exact ⟨w3.heap.size, h, zs.take (n + 2), zs.drop (n + 2), rfl, Boxed.new w3 _ _, by rw [hrz]; exact hrow3.alloc _, hgh2, by omega, by omega, hld, hsm3.take _, hvd, hb23.alloc (by omega) _⟩
        | exact ⟨W2.heap.size, h, zs.take (n + 2), zs.drop (n + 2), rfl, (boxed_keep (Boxed.new W2 22 (.slice none 0 0)) (below_undrew hb3)).set _, by rw [hrz]; exact hrow3.other (a := ⟨W2.heap.size, 0, none⟩) (show h ≠ W2.heap.size from by have : W2.heap.size + 1 ≤ h := by { simpa using hgh }; omega) _, hgh2, by omega, by have : W2.heap.size + 1 ≤ h := by { simpa using hgh }; omega, hld, hsm3.take _, hvd, hb23.setCell (p := ⟨W2.heap.size, 0, none⟩) (Nat.le_refl _) _⟩
  case rest =>
    obtain ⟨g7, h, ds, dt, rfl, hb7, hrd, hh2, hg72, hg7h, hld, hsd, hvd, hB2⟩ := hcut
    have hx3 := hx2.below hB2
    have e0 := (boxed_keep b0 hB2)
    have e1 := (boxed_keep b1 hB2)
    have c0' := e0.cell
    have hsz2 := hB2.size
    clear c0 b0 b1 hx2 hy2
    go_wp2_with (first
      | (go_at_call 149; go_must (refine (left_calls _ _ us s hx3 (by have := Hlu.out; omega) (by omega)).mono ?_; rintro e w4 ⟨gr, rs, rfl, hgr, hrr, hsr, hlr, hvr, hb4⟩; have hlr' : rs.length = m + 1 := (by have := Hlu.out; omega); rw [hlr']; have f0 := boxed_keep e0 hb4; have f1 := boxed_keep e1 hb4; have k0 := f0.cell; have k1 := f1.cell; have k1f := f1.frozen; have hsz4 := hb4.size; have hlt4 : w.heap.size < w4.heap.size := (by omega); have hlt4' : w.heap.size + 1 < w4.heap.size := (by omega)))
      | (at_make; go_must (refine wpList_mk _ rfl _ rfl _ (m - n - 1) rfl (by omega) (by omega) ?_; intro w6 hr6 hb6 hz6; simp only [World.size_alloc] at hr6 hb6 hz6; have m1 := boxed_keep (f1.alloc (.cells #[.slice (some ⟨gr, 0, none⟩) (m + 1) (m + 1)] 22)) (by rw [World.size_alloc]; exact hb6); have m1c := m1.cell; have m1f := m1.frozen))
      | (go_at_call 108; refine (fromTop_calls _ _ ⟨_, _, _, rfl⟩).mono ?_; rintro e w' ⟨rfl, rfl⟩))
    obtain ⟨N, hN⟩ : ∃ N, m - n - 1 = N := ⟨_, rfl⟩
    rw [hN] at hr6 ⊢
    have HN : Hid (N + (n + 2) = m + 1) := by show _ = _; omega
    have hN1 : N ≤ 1048576 := by omega
    have hNm : N + (n + 1) = m := by omega
    -- what lies where the loop begins
    have hdr6 := (((hrd.keep hb4).alloc (.cells #[.slice (some ⟨gr, 0, none⟩) (m + 1) (m + 1)] 22)).keep (by rw [World.size_alloc]; exact hb6))
    have hrr6 := ((hrr.alloc (.cells #[.slice (some ⟨gr, 0, none⟩) (m + 1) (m + 1)] 22)).keep (by rw [World.size_alloc]; exact hb6))
    have m0 := boxed_keep (f0.alloc (.cells #[.slice (some ⟨gr, 0, none⟩) (m + 1) (m + 1)] 22)) (by rw [World.size_alloc]; exact hb6)
    have m7 := boxed_keep ((boxed_keep hb7 hb4).alloc (.cells #[.slice (some ⟨gr, 0, none⟩) (m + 1) (m + 1)] 22)) (by rw [World.size_alloc]; exact hb6)
    have m8 := boxed_keep (Boxed.new w4 22 (.slice (some ⟨gr, 0, none⟩) (m + 1) (m + 1))) (by rw [World.size_alloc]; exact hb6)
    have hB6 : Below w.heap.size w w6 := (hB0.trans ((hB2.trans (hb4.mono hsz2)).mono (by omega))).trans (((Below.refl _ w4).alloc (Nat.le_refl _) _ |>.mono (by omega)).trans (hb6.mono (by omega)))
    have h7lt := hb7.lt
    have hhlt := hrd.lt
    have hrlt := hrr.lt
    have o1 := m1.set (.slice (some ⟨w4.heap.size + 1, 0, none⟩) N N)
    have G1 : But (w.heap.size + 1) w6 (w6.setCell ⟨w.heap.size + 1, 0, none⟩ (.slice (some ⟨w4.heap.size + 1, 0, none⟩) N N)) := (But.refl _ w6).setCell (p := ⟨w.heap.size + 1, 0, none⟩) rfl _
    have o0 := boxed_but m0 G1 (by omega)
    have o7 := boxed_but m7 G1 (by omega)
    have o8 := boxed_but m8 G1 (by omega)
    have od := hdr6.but G1 (by omega)
    have or := hrr6.but G1 (by omega)
    have oq := hr6.but G1 (by omega)
    have oB := hB6.setCell (p := ⟨w.heap.size + 1, 0, none⟩) (by simp) (.slice (some ⟨w4.heap.size + 1, 0, none⟩) N N)
    have hz7 : (w6.setCell ⟨w.heap.size + 1, 0, none⟩ (.slice (some ⟨w4.heap.size + 1, 0, none⟩) N N)).heap.size = w4.heap.size + 1 + 1 := by simp [World.setCell, hz6]
    obtain ⟨w7, hw7⟩ : ∃ w7, w6.setCell ⟨w.heap.size + 1, 0, none⟩ (.slice (some ⟨w4.heap.size + 1, 0, none⟩) N N) = w7 := ⟨_, rfl⟩
    rw [hw7] at o1 o0 o7 o8 od or oq oB hz7 ⊢
    have ot := Boxed.new w7 22 (.slice (some ⟨w4.heap.size + 1, 0, none⟩) N N)
    rw [hz7] at ot
    replace o0 := o0.alloc (.cells #[.slice (some ⟨w4.heap.size + 1, 0, none⟩) N N] 22)
    replace o1 := o1.alloc (.cells #[.slice (some ⟨w4.heap.size + 1, 0, none⟩) N N] 22)
    replace o7 := o7.alloc (.cells #[.slice (some ⟨w4.heap.size + 1, 0, none⟩) N N] 22)
    replace o8 := o8.alloc (.cells #[.slice (some ⟨w4.heap.size + 1, 0, none⟩) N N] 22)
    replace od := od.alloc (.cells #[.slice (some ⟨w4.heap.size + 1, 0, none⟩) N N] 22)
    replace or := or.alloc (.cells #[.slice (some ⟨w4.heap.size + 1, 0, none⟩) N N] 22)
    replace oq := oq.alloc (.cells #[.slice (some ⟨w4.heap.size + 1, 0, none⟩) N N] 22)
    replace oB := oB.alloc (by omega) (.cells #[.slice (some ⟨w4.heap.size + 1, 0, none⟩) N N] 22)
    obtain ⟨Wr, hWr⟩ : ∃ Wr, w7.alloc (.cells #[.slice (some ⟨w4.heap.size + 1, 0, none⟩) N N] 22) = Wr := ⟨_, rfl⟩
    have hzr : Wr.heap.size = w4.heap.size + 1 + 1 + 1 := by rw [← hWr]; simp [hz7]
    rw [hWr] at o0 o1 o7 o8 od or oq oB ot ⊢
    have Hzr := hide hzr
    have hdt := top_set hsd hld Hlv.out hvd.out hslo
    have hDlt : val R ds < R ^ (n + 2) := by have := val_lt hsd; rw [hld] at this; exact this
    have hinv0 : LongInv R (val R us * 2 ^ s) (val R ds) N (n + 2) (m + 1) 0 rs [] := by
      refine ⟨hlr', hsr, rfl, Small.nil _, Nat.zero_le _, ?_, by rw [hvr.out]; simp [val]⟩
      have h1 : nth rs m < 2 ^ s := by
        have g1 := val_top_ge (xs := rs) (k := m) hlr'
        have g2 := val_lt hcu.1
        rw [Hlu.out] at g2
        rw [hvr.out] at g1
        have g3 : val R us * 2 ^ s < R ^ m * 2 ^ s := Nat.mul_lt_mul_of_pos_right g2 (pow_pos2 s)
        exact Nat.lt_of_mul_lt_mul_left (Nat.lt_of_le_of_lt g1 g3)
      have h2 := pow_le31 hs31
      have h3 := top_less (m := m) (n := n + 1) hsr hlr' hld (by omega) (by omega)
      rw [show m - (n + 1) = N - 0 from by omega] at h3
      exact h3
    clear m0 m1 m1c m1f m7 m8 hdr6 hrr6 G1 hw7 hWr hzr hz7 hB6 hr6 hb6 hz6 hb4 f0 f1 k0 k1 k1f e0 e1 c0' hrd hb7 hrr
    refine range_plain (gf := 123) (lb := #[.pointer (some ⟨w4.heap.size + 1 + 1, 0, none⟩)]) rfl (enters_of Tryz.func123 (by kernel_rfl) rfl)
      (top_hands (w4.heap.size + 1 + 1) (some ⟨w4.heap.size + 1, 0, none⟩) N N (fun _ => 0) (by omega)) (fun _ => rfl)
      (fun k W => ∃ x : List Nat × List Nat, (Boxed W w.heap.size 22 (.slice (some ⟨b, off, none⟩) (n + 2) dap) ∧ Boxed W (w.heap.size + 1) 22 (.slice (some ⟨w4.heap.size + 1, 0, none⟩) N N) ∧ Boxed W g7 22 (.slice (some ⟨h, 0, none⟩) (n + 2) (n + 2 + 1)) ∧ Boxed W w4.heap.size 22 (.slice (some ⟨gr, 0, none⟩) (m + 1) (m + 1)) ∧ Boxed W (w4.heap.size + 1 + 1) 22 (.slice (some ⟨w4.heap.size + 1, 0, none⟩) N N) ∧ LongInv R (val R us * 2 ^ s) (val R ds) N (n + 2) (m + 1) k x.1 x.2) ∧ Row W h (ds ++ dt) ∧ Row W gr x.1 ∧ Row W (w4.heap.size + 1) (List.replicate (N - k) 0 ++ x.2) ∧ Below w.heap.size w W)
      (fun _ _ _ => False)
      (own_exists fun x => OwnFrom.and (OwnFrom.and (own_boxed _ _ _ _) (OwnFrom.and (own_boxed _ _ _ _) (OwnFrom.and (own_boxed _ _ _ _) (OwnFrom.and (own_boxed _ _ _ _) (OwnFrom.and (own_boxed _ _ _ _) (ownFrom_pure _ _)))))) (OwnFrom.and (own_row _ _ (fun _ => ds ++ dt)) (OwnFrom.and (own_row _ _ (fun _ => x.1)) (OwnFrom.and (own_row _ _ (fun k => List.replicate (N - k) 0 ++ x.2)) (ownFrom_below (Nat.le_refl _) (by have := Hzr.out; omega))))))
      (fun _ => ownFrom_pure _ _)
      ?know ⟨(rs, []), ⟨o0, o1, o7, o8, ot, hinv0⟩, od, or, by simpa using oq, oB⟩
      (fun k => { tmps := #[.slice ao m cap, .slice (some ⟨b, off, none⟩) (n + 2) dap, undef, .pointer (some ⟨w.heap.size, 0, none⟩), .pointer (some ⟨w.heap.size + 1, 0, none⟩), .slice none 0 0, .int .i64 (s : Int), .pointer (some ⟨g7, 0, none⟩), .pointer (some ⟨w4.heap.size, 0, none⟩), .int .i64 ((N : Int) - 1 - k), undef, undef,
        .slice (some ⟨b, off, none⟩) (n + 2) dap, .slice (some ⟨b, off, none⟩) (n + 2) dap, .int .i64 ((n : Int) + 2), .int .i64 ((n : Int) + 2 - 1), .pointer (some ⟨b, off + (n + 1), none⟩), .int .u32 ((nth vs (n + 1) : Nat) : Int), .int .i64 (s : Int), u19, u20, u21, u22, u23, u24,
        .slice ao m cap, .int .i64 (s : Int), .slice (some ⟨gr, 0, none⟩) (m + 1) (m + 1), .slice ao m cap, .int .i64 (m : Int), .slice (some ⟨b, off, none⟩) (n + 2) dap, .int .i64 ((n : Int) + 2), .int .i64 ((m : Int) - ((n : Int) + 2)), .int .i64 ((m : Int) - ((n : Int) + 2) + 1), .slice (some ⟨w4.heap.size + 1, 0, none⟩) N N, .slice (some ⟨w4.heap.size + 1, 0, none⟩) N N,
        .func (.func 123) #[] #[.pointer (some ⟨w4.heap.size + 1 + 1, 0, none⟩)], .int .i64 ((N : Int) - 1 - k), .int .u32 0,
        undef, undef, undef, undef, undef, undef, undef, undef, undef, undef, undef, undef, undef, undef, undef, undef, undef, undef, undef, undef, undef, undef, undef, undef, undef, undef, undef, undef, undef, undef, undef, undef, undef], defers := [] }) ?assign ?body ?done ?stop
    case know =>
      rintro k W ⟨x, ⟨_, _, _, _, hb, hinv⟩, _, _, hR, _⟩
      refine ⟨hb.cell, fun hk => ⟨w4.heap.size + 1, 0, rfl, ?_⟩⟩
      have := hR.cell (j := N - 1 - k) (by simp; omega)
      rw [Nat.zero_add, this]
      congr 2
      have e : nth (List.replicate (N - k) 0 ++ x.2) (N - 1 - k) = nth (List.replicate (N - k) 0) (N - 1 - k) := by
        unfold nth
        rw [List.getElem?_append_left (by simp; omega)]
      rw [e, nth_replicate]
      rfl
    case assign =>
      intro l k W K hk hK
      gi_wp2
      exact hK
    case body =>
      rintro l k W hk ⟨⟨rs', qs⟩, hall⟩
      dsimp only at hall
      obtain ⟨⟨hb0, hb1, hb7, hb8, hbt, hinv⟩, hRd, hRr, hRq, hB⟩ := hall
      obtain ⟨pre, ps, post, hcut', hpl', hpsl, hplt, hpz, hpsm⟩ := hinv.cut hk HN.out.symm hDlt
      have c0 := hb0.cell
      have c1 := hb1.cell
      have c7 := hb7.cell
      have c8 := hb8.cell
      have hRr' : Row W gr (pre ++ (ps ++ post)) := by rw [← hcut']; exact hRr
      have hN2 := HN.out
      have hD0 : 0 < val R ds := by omega
      have hpslt := val_lt hpsm
      have Hinv := hide hinv
      have Hcut := hide hcut'
      obtain ⟨cp, hcp⟩ : ∃ cp, m + 1 - (N - 1 - k) = cp := ⟨_, rfl⟩
      have hcp1 : n + 2 + 1 ≤ cp := by omega
      have hcp2 : cp ≤ 70368744177664 := by omega
      have heq : N - 1 - k + (n + 2) + 1 - (N - 1 - k) = n + 2 + 1 := by omega
      have Heq := hide heq
      have Hcp := hide hcp
      clear hinv hcut' hRr heq hcp hN2
      gi_wp2_with fail
      rw [Heq.out, Hcp.out]
      refine ⟨trivial, ?_⟩
      refine (CallsIn.inRound l (callsIn_wide.2 (guess_calls W gr h (N - 1 - k) cp (n + 2 + 1) n pre ps post ds dt hRr' hpl' hld hpsl hpsm hsd hRd hcp1 hcp2 (by omega) (by omega) hdt hplt))).mono ?_
      rintro e W1 ⟨L, rfl, hL, hq1, hq2, hbW1⟩
      have d0 := boxed_keep hb0 hbW1
      have d1 := boxed_keep hb1 hbW1
      have d7 := boxed_keep hb7 hbW1
      have d8 := boxed_keep hb8 hbW1
      have dt' := boxed_keep hbt hbW1
      have dRd := hRd.keep hbW1
      have dRr := hRr'.keep hbW1
      have dRq := hRq.keep hbW1
      have dB : Below w.heap.size w W1 := hB.trans (hbW1.mono hB.size)
      have c7' := d7.cell
      clear c0 c1 c7 c8
      gi_wp2_with fail
      refine ⟨trivial, ?_⟩
      refine (CallsIn.inRound l (callsIn_wide.2 (takeAway_at W1 gr h (N - 1 - k) cp (n + 2 + 1) L (n + 2) pre ps post ds dt hld dRr hpl' hpsl hpsm hsd dRd (by omega) hL hcp1 hcp2 (by omega) (by omega)))).mono ?_
      rintro e W3 ⟨ns, bb, rfl, hbb, hnl, hnsm, hnv, hRn, hBut⟩
      have hnlt := val_lt hnsm
      rw [hnl] at hnlt
      have hlr2 := limb_right hD0 hq1 hq2 hbb hnv.out hnlt
      have g0 := boxed_but d0 hBut (by omega)
      have g1 := boxed_but d1 hBut (by omega)
      have g7' := boxed_but d7 hBut (by omega)
      have g8 := boxed_but d8 hBut (by omega)
      have gt := boxed_but dt' hBut (by omega)
      have gRd := dRd.but hBut (by omega)
      have gRq := dRq.but hBut (by omega)
      have gB : Below w.heap.size w W3 := dB.trans (hBut.below (by omega) dB.size)
      have gc1 := g1.cell
      have gc7 := g7'.cell
      have gcq := gRq.cell (j := N - 1 - k) (by simp; omega)
      have gfq := gRq.frozen (N - 1 - k)
      have hmod := Nat.mod_lt (val R ps) hD0
      have hdm := Nat.div_add_mod (val R ps) (val R ds)
      have hqB : val R ps / val R ds < 4294967296 := quo_lt hpsm (by omega) hplt
      have hps' : val R ps = val R ps % val R ds + val R ps / val R ds * val R ds := by rw [Nat.mul_comm]; omega
      -- the end of a round: the quotient's limb qt is stored, and the part is its rest
      have fin : ∀ (a : Act) (W5 : World) (ns' : List Nat) (qt : Nat), qt = val R ps / val R ds → ns'.length = n + 2 + 1 → Small R ns' → val R ns' = val R ps % val R ds → Row W5 gr (pre ++ (ns' ++ post)) → But gr W3 W5 →
          roundPost Wr.heap.size (fun k W => ∃ x : List Nat × List Nat, (Boxed W w.heap.size 22 (.slice (some ⟨b, off, none⟩) (n + 2) dap) ∧ Boxed W (w.heap.size + 1) 22 (.slice (some ⟨w4.heap.size + 1, 0, none⟩) N N) ∧ Boxed W g7 22 (.slice (some ⟨h, 0, none⟩) (n + 2) (n + 2 + 1)) ∧ Boxed W w4.heap.size 22 (.slice (some ⟨gr, 0, none⟩) (m + 1) (m + 1)) ∧ Boxed W (w4.heap.size + 1 + 1) 22 (.slice (some ⟨w4.heap.size + 1, 0, none⟩) N N) ∧ LongInv R (val R us * 2 ^ s) (val R ds) N (n + 2) (m + 1) k x.1 x.2) ∧ Row W h (ds ++ dt) ∧ Row W gr x.1 ∧ Row W (w4.heap.size + 1) (List.replicate (N - k) 0 ++ x.2) ∧ Below w.heap.size w W) (fun _ _ _ => False) k W .normal a (W5.setCell ⟨w4.heap.size + 1, N - 1 - k, none⟩ (.int .u32 (qt : Int))) := by
        intro a W5 ns' qt hqt hl hsm hv hR5 hB5
        have hst := Hinv.out.step (qt := qt) (ns := ns') hk Hcut.out hpl' hpsl hpz hl hsm (by rw [hqt]; exact hqB) (by rw [hv, hqt]; exact hps') (by rw [hv]; exact hmod)
        have G : But (w4.heap.size + 1) W5 (W5.setCell ⟨w4.heap.size + 1, N - 1 - k, none⟩ (.int .u32 (qt : Int))) := (But.refl _ W5).setCell (p := ⟨w4.heap.size + 1, N - 1 - k, none⟩) rfl _
        have x0 := boxed_but (boxed_but g0 hB5 (by omega)) G (by omega)
        have x1 := boxed_but (boxed_but g1 hB5 (by omega)) G (by omega)
        have x7 := boxed_but (boxed_but g7' hB5 (by omega)) G (by omega)
        have x8 := boxed_but (boxed_but g8 hB5 (by omega)) G (by omega)
        have xt := boxed_but (boxed_but gt hB5 (by omega)) G (by omega)
        have xd := (gRd.but hB5 (by omega)).but G (by omega)
        have xr := hR5.but G (by omega)
        have xq := (gRq.but hB5 (by omega)).set (N - 1 - k) qt
        have hlq : (List.replicate (N - k) 0 ++ qs).set (N - 1 - k) qt = List.replicate (N - (k + 1)) 0 ++ qt :: qs := by
          have := set_take (List.replicate N 0) qs k qt (by simpa using hk)
          simp only [List.length_replicate, List.take_replicate, Nat.min_eq_left (Nat.sub_le _ _)] at this
          exact this
        rw [hlq] at xq
        have xB : Below w.heap.size w (W5.setCell ⟨w4.heap.size + 1, N - 1 - k, none⟩ (.int .u32 (qt : Int))) := (gB.trans (hB5.below (by omega) gB.size)).setCell (p := ⟨w4.heap.size + 1, N - 1 - k, none⟩) (show w.heap.size ≤ w4.heap.size + 1 from by omega) _
        have hKf : KeepsFrom Wr.heap.size W (W5.setCell ⟨w4.heap.size + 1, N - 1 - k, none⟩ (.int .u32 (qt : Int))) := by
          have q1 : KeepsFrom Wr.heap.size W W1 := ⟨hbW1.size, fun i o _ hi _ => (hbW1.block i (Array.getElem?_eq_some_iff.1 hi).1).trans hi⟩
          have q2 : KeepsFrom Wr.heap.size W1 W3 := ⟨hBut.size, fun i o hB hi _ => (hBut.block i (Array.getElem?_eq_some_iff.1 hi).1 (by have := Hzr.out; omega)).trans hi⟩
          have q3 : KeepsFrom Wr.heap.size W3 W5 := ⟨hB5.size, fun i o hB hi _ => (hB5.block i (Array.getElem?_eq_some_iff.1 hi).1 (by have := Hzr.out; omega)).trans hi⟩
          exact ((q1.trans q2).trans q3).trans ((KeepsOthers.setCell _ _ _).from _)
        exact ⟨hKf, (pre ++ (ns' ++ post), qt :: qs), ⟨x0, x1, x7, x8, xt, hst⟩, xd, xr, xq, xB⟩
      have Hfin := hide fin
      clear fin
      rcases (show bb = 0 ∨ bb = 1 from by omega) with rfl | rfl
      · obtain ⟨hLq, hvq⟩ := hlr2.1 rfl
        have HLq := hide hLq
        have Hvq := hide hvq
        clear hLq hvq hlr2 hps' hdm
        gi_wp2
        exact Hfin.out _ W3 ns L HLq.out hnl hnsm Hvq.out hRn (But.refl _ _)
      · obtain ⟨hLq, hvq⟩ := hlr2.2 rfl
        have HLq := hide hLq
        have Hvq := hide hvq
        have hL1 : 1 ≤ L := by rw [hLq]; exact Nat.le_add_left _ _
        clear hLq hvq hlr2 hps' hdm
        gi_wp2_with fail
        refine ⟨trivial, ?_⟩
        refine (CallsIn.inRound l (callsIn_wide.2 (putBack_at W3 gr h (N - 1 - k) cp (n + 2 + 1) (n + 2) pre ns post ds dt hld hRn hpl' hnl hnsm hsd gRd (by omega) hcp1 hcp2 (by omega) (by omega)))).mono ?_
        rintro e W5 ⟨rfl, xs, b2, hb2, hxl, hxsm, hxv, hRx, hBut5⟩
        have hxlt := val_lt hxsm
        rw [hxl] at hxlt
        have hxr : val R xs = val R ps % val R ds := put_right Hvq.out hxv.out hb2 hxlt (by have := hDlt; rw [Nat.pow_succ]; have := Nat.mul_le_mul_left (R ^ (n + 2)) R_pos; omega)
        have k1 := boxed_but g1 hBut5 (by omega)
        have kc1 := k1.cell
        have kRq := gRq.but hBut5 (by omega)
        have kcq := kRq.cell (j := N - 1 - k) (by simp; omega)
        have kfq := kRq.frozen (N - 1 - k)
        have Hxr := hide hxr
        clear hxr gc1 gc7 gcq gfq
        gi_wp2
        have hcast : ((L : Int) - 1) = ((L - 1 : Nat) : Int) := by omega
        rw [hcast]
        exact Hfin.out _ W5 xs (L - 1) (by have := HLq.out; omega) hxl hxsm Hxr.out hRx hBut5
    case done =>
      rintro D W hD ⟨⟨rs', qs⟩, hall⟩ hK
      dsimp only at hall
      obtain ⟨⟨hb0, hb1, hb7, hb8, hbt, hinv⟩, hRd, hRr, hRq, hB⟩ := hall
      have hdone := hinv.done hDlt (by omega)
      have hsv : val R us * 2 ^ s / val R ds = val R us / val R vs ∧ val R us * 2 ^ s % val R ds = val R us % val R vs * 2 ^ s := by
        rw [hvd.out]
        exact ⟨Nat.mul_div_mul_right _ _ (pow_pos2 s), Nat.mul_mod_mul_right _ _ _⟩
      have hq1 : val R (List.replicate (N - N) 0 ++ qs) = val R us / val R vs := by
        rw [val_append, val_replicate, Nat.sub_self, Nat.zero_add, hdone.1, hsv.1]; simp
      have hr1 : val R (rs'.take (n + 2)) = val R us % val R vs * 2 ^ s := by rw [hdone.2, hsv.2]
      have hlq : (List.replicate (N - N) 0 ++ qs).length = N := by simp [hinv.ql]
      have hsq : Small R (List.replicate (N - N) 0 ++ qs) := (small_replicate _).append hinv.qsm
      have hrl := hinv.rl
      have hlim := hRr.limbs hinv.rsm 0 (n + 2) (m + 1) (by omega) (by omega) (by omega)
      rw [List.drop_zero] at hlim
      have hrtl : (rs'.take (n + 2)).length = n + 2 := by rw [List.length_take]; omega
      have Hr1 := hide hr1
      have Hq1 := hide hq1
      have Hlq := hide hlq
      have hrtl' : (rs'.take (n + 2)).length ≤ n + 2 := by omega
      clear hrtl hrl hlq
      have c1 := hb1.cell
      have c8 := hb8.cell
      have c0 := hb0.cell
      clear hdone hsv hr1 hq1 hinv
      go_upto_region 13 with fail
      have hbi : (n : Int) + 2 ≤ (m : Int) + 1 := by omega
      have hbi0 : (0 : Int) ≤ (n : Int) + 2 := by omega
      go_region_with (first
        | (go_at_call 153; go_must (refine (right_from wa _ ?_ _ (rs'.take (n + 2)) s hlima (by omega) hs31).mono ?_; (first | exact Below.refl _ _ | exact (Below.refl _ _).drew | exact (Below.refl _ _).drew.drew); rintro e wb ⟨ge, es, rfl, hge, hRe, hse, hle, hve, hbb⟩; have hes : es.length ≤ 1048579 := (by rw [hle]; omega); clear hle; have cb8 := (boxed_keep (boxed_keep hb8 hba) hbb).cell; have cb0 := (boxed_keep (boxed_keep hb0 hba) hbb).cell))
        | (go_at_call 107; (refine (trim_made_from w4 wb _ ?_ ge es es.length (val R us % val R vs) hRe hse rfl (by have := hRq.lt; have := hba.size; omega) (by omega) (by rw [hve.out, Hr1.out, Nat.mul_div_cancel _ (pow_pos2 s)])).mono ?_; (first | exact Below.refl _ _ | exact (Below.refl _ _).drew | exact (Below.refl _ _).drew.drew); rintro e wd' ⟨ro, rm, rc, rfl, hAr, hbd⟩; have hbad : Below wa.heap.size wa wd' := hbb.trans (hbd.mono hbb.size); have hbWd : Below W.heap.size W wd' := hba.trans (hbad.mono hba.size); have cd1 := (boxed_keep hb1 hbWd).cell; have fd1 := (boxed_keep hb1 hbWd).frozen; have cd8 := (boxed_keep hb8 hbWd).cell; have cd0 := (boxed_keep hb0 hbWd).cell; have ce8 := (boxed_but (boxed_keep hb8 hbWd) ((But.refl (w.heap.size + 1) _).setCell (p := ⟨w.heap.size + 1, 0, none⟩) rfl (.slice qo qm qc)) (by omega)).cell; have ce0 := (boxed_but (boxed_keep hb0 hbWd) ((But.refl (w.heap.size + 1) _).setCell (p := ⟨w.heap.size + 1, 0, none⟩) rfl (.slice qo qm qc)) (by omega)).cell))
        | (go_at_call 107; go_must (refine (trim_made_from w4 W _ ?_ (w4.heap.size + 1) _ N _ hRq hsq Hlq.out (by omega) (by omega) Hq1.out).mono ?_; (first | exact Below.refl _ _ | exact (Below.refl _ _).drew | exact (Below.refl _ _).drew.drew); rintro e wa ⟨qo, qm, qc, rfl, hAq, hba⟩; have ca8 := (boxed_keep hb8 hba).cell; have ca0 := (boxed_keep hb0 hba).cell; have hlima := hlim.below hba)))
      all_goals
        go_wp2
        have hx1 := (boxed_keep hb1 hbWd).set (.slice qo qm qc)
        have hK2 : (wd'.setCell ⟨w.heap.size + 1, 0, none⟩ (.slice qo qm qc)).heap[D]? = some (.deferred (some [])) := (KeepsOthers.setCell wd' ⟨w.heap.size + 1, 0, none⟩ (.slice qo qm qc)).same D _ ((hbWd.block D (Array.getElem?_eq_some_iff.1 hK).1).trans hK) rfl
        have hBd : Below w.heap.size w wd' := hB.trans (hbWd.mono hB.size)
        have hAq2 : Answer w4 wd' (.slice qo qm qc) (val R us / val R vs) := hAq.below hbad
        refine ⟨by simp, .inl ⟨_, _, rfl, run_takeDeferred hK2, ?_⟩⟩
        have hc5 := cell_kept hx1.cell (grownBy_putObj' _ D (.deferred none)) (fun r e => by cases e; exact ⟨_, hK2, rfl⟩)
        have hzr := Hzr.out
        refine ⟨.tuple #[.slice qo qm qc, .slice ro rm rc], ?_, _, _, rfl, hAq2.last _ _ hlt4' (by omega) hK2 rfl, hAr.last _ _ hlt4' (by omega) hK2 rfl, (hBd.setCell (p := ⟨w.heap.size + 1, 0, none⟩) (by simp) _).trans (belowK_b (w := w) (Nat.le_refl _) _ D _ _ (by omega) hK2 rfl rfl)⟩
        simp [results, Tryz.f137, go_sem, hc5]
    case stop =>
      rintro D c k W _ _ h _
      exact h.elim

end Go.Proofs.YtkdhcpfmlelfcaaGreatDoor
