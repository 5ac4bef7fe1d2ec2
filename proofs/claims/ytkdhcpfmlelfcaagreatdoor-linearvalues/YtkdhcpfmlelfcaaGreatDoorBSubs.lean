/- The reference's Cmp: which of two numbers is the greater. The reference's Sub: the difference of two numbers of which the second isn't greater. What the reference's DivMod works on: a block of digits, written in place; its reckoning. -/
import Derived.Test.YtkdhcpfmlelfcaaGreatDoorRBase
import Derived.Test.YtkdhcpfmlelfcaaGreatDoorCmp

/- The reference's Cmp: which of two numbers is the greater. -/
namespace Go.Proofs.YtkdhcpfmlelfcaaGreatDoor
set_option linter.unusedVariables false
set_option linter.unusedSimpArgs false
open Go Go.RowKit Go.Shelf

theorem trim_same {w : World} {v : Value} {ds : List Nat} (h : Digs w v ds) (hc : Canon 10 ds) (hl : ds.length ≤ 1048576) :
    Calls Tryz.prog 88 #[v] w fun e w' => ∃ rv, e = .returned rv ∧ Digs w' rv ds ∧ Below w.heap.size w w' := by
  refine (rtrim_calls w v ds h hl).mono ?_
  rintro e w' ⟨rv, rfl, ho, hb⟩
  have e1 : trm ds = ds := by unfold trm; rw [hc.2]; simp
  rw [e1] at ho
  exact ⟨rv, rfl, ho.digs hc.1, hb⟩

theorem cmp_len10 {us vs : List Nat} (hu : Canon 10 us) (hv : Canon 10 vs) (h : us.length ≠ vs.length) : cmpI (us.length : Int) (vs.length : Int) = cmpI (val 10 us : Int) (val 10 vs : Int) := by
  rcases Nat.lt_or_gt_of_ne h with h | h
  · have := canon_len_lt ten_pos hu.1 hv h
    rw [cmpI_lt (by omega), cmpI_lt (by omega)]
  · have := canon_len_lt ten_pos hv.1 hu h
    rw [cmpI_gt (by omega), cmpI_gt (by omega)]

theorem cmp_top10 {us vs : List Nat} (hu : Small 10 us) (hv : Small 10 vs) (hl : us.length = vs.length) {i : Nat} (hi : i < us.length) (hd : us.drop (i + 1) = vs.drop (i + 1)) (h : nth us i ≠ nth vs i) : cmpI (nth us i : Int) (nth vs i : Int) = cmpI (val 10 us : Int) (val 10 vs : Int) := by
  have h2 : i < vs.length := by omega
  rcases Nat.lt_or_gt_of_ne h with h | h
  · have := lt_of_top hu i hi h2 hd (by rw [nth_eq hi, nth_eq h2] at h; exact h)
    rw [cmpI_lt (by omega), cmpI_lt (by omega)]
  · have := lt_of_top hv i h2 hi hd.symm (by rw [nth_eq hi, nth_eq h2] at h; exact h)
    rw [cmpI_gt (by omega), cmpI_gt (by omega)]

theorem drop_eq_step {us vs : List Nat} {j : Nat} (h1 : j < us.length) (h2 : j < vs.length) (h : us.drop (j + 1) = vs.drop (j + 1)) (he : nth us j = nth vs j) : us.drop j = vs.drop j := by
  rw [nth_eq h1, nth_eq h2] at he
  rw [List.drop_eq_getElem_cons h1, List.drop_eq_getElem_cons h2, he, h]

set_option maxRecDepth 100000 in
set_option maxHeartbeats 2000000 in
theorem rcmp_calls {w : World} {av bv : Value} {m n : Nat} (hx : RArg w av m) (hy : RArg w bv n) :
    Calls Tryz.prog 95 #[av, bv] w fun e w' => e = .returned (.int .i64 (cmpI m n)) ∧ Below w.heap.size w w' := by
  obtain ⟨xs, hx0, cx, rfl, lx⟩ := hx
  obtain ⟨ys, hy0, cy, rfl, ly⟩ := hy
  obtain ⟨ao, ca, rfl⟩ := hx0.len
  obtain ⟨bo, cb, rfl⟩ := hy0.len
  go_enter Tryz.func95, Tryz.ntmps95
  go_wp2_with fail
  refine (trim_same hx0 cx (by omega)).mono ?_
  rintro e w1 ⟨r1, rfl, q1, hb1⟩
  go_wp2_with fail
  refine (trim_same (hy0.below hb1) cy (by omega)).mono ?_
  rintro e w2 ⟨r2, rfl, q2, hb2⟩
  replace q1 := q1.below hb2
  have hB2 := bth hb1 hb2
  obtain ⟨ao1, ca1, rfl⟩ := q1.len
  obtain ⟨bo1, cb1, rfl⟩ := q2.len
  have Hx0 := hide hx0
  have Hy0 := hide hy0
  clear hx0 hy0 hb1 hb2
  by_cases hl : xs.length = ys.length
  · have hl' : ((xs.length : Int) != (ys.length : Int)) = false := by simp [hl]
    have Hl := hide hl
    clear hl
    go_wp2
    go_loopw [7] (fun iv wr => ∃ (k : Nat) (i : Int), iv = .int .i64 i ∧ i = (k : Int) - 1 ∧ k ≤ xs.length ∧ xs.drop k = ys.drop k ∧ Below w2.heap.size w2 wr) (fun iv _ => (intOf iv + 1).toNat)
    case atStart => exact ⟨xs.length, _, rfl, rfl, Nat.le_refl _, by rw [List.drop_of_length_le (Nat.le_refl _), List.drop_of_length_le (by rw [Hl.out]; exact Nat.le_refl _)], Below.refl _ _⟩
    case round =>
      obtain ⟨k, i, rfl, hi, hk, hdr, hB⟩ := hrel
      have HB := hide hB
      have Hdr := hide hdr
      clear hB hdr
      rcases Nat.eq_zero_or_pos k with rfl | hkp
      · obtain rfl : i = -1 := by omega
        have hno : ¬ ((-1 : Int) ≥ 0) := by omega
        have Q1 := hide q1
        have Q2 := hide q2
        clear q1 q2 hi
        go_wp2
        go_ret
        have e1 : xs = ys := by have := Hdr.out; simpa using this
        refine ⟨?_, bth hB2 HB.out⟩
        rw [e1, cmpI_eq]
        rfl
      · obtain ⟨j, rfl⟩ : ∃ j, k = j + 1 := ⟨k - 1, by omega⟩
        obtain rfl : i = (j : Int) := by omega
        have hjy : j < ys.length := by have := Hl.out; omega
        obtain ⟨b1, o1, ea⟩ := q1.addr (j := j) (by omega)
        obtain ⟨b2, o2, eb⟩ := q2.addr (j := j) hjy
        subst ea
        subst eb
        have c1 : wr.cell? ⟨b1, o1 + j, none⟩ = some (.int .i64 ((nth xs j : Nat) : Int)) := (q1.below HB.out).cellAt rfl (by omega)
        have c2 : wr.cell? ⟨b2, o2 + j, none⟩ = some (.int .i64 ((nth ys j : Nat) : Int)) := (q2.below HB.out).cellAt rfl hjy
        have dge : (j : Int) ≥ 0 := by omega
        have dj : (j : Int) < (xs.length : Int) := by omega
        have dj2 : (j : Int) < (ys.length : Int) := by omega
        have Q1 := hide q1
        have Q2 := hide q2
        clear q1 q2 hi
        by_cases hlt : nth xs j < nth ys j
        · have dlt : ((nth xs j : Nat) : Int) < ((nth ys j : Nat) : Int) := by omega
          go_wp2
          go_quiet (fail)
          go_wp2
          go_ret
          refine ⟨?_, below_drewN (bth hB2 HB.out) _⟩
          rw [← cmp_top10 cx.1 cy.1 Hl.out (by omega) Hdr.out (by omega), cmpI_lt (by omega)]
          rfl
        · have dlt : ¬ ((nth xs j : Nat) : Int) < ((nth ys j : Nat) : Int) := by omega
          by_cases hgt : nth xs j > nth ys j
          · have dgt : ((nth xs j : Nat) : Int) > ((nth ys j : Nat) : Int) := by omega
            go_wp2
            go_quiet (fail)
            go_wp2
            go_quiet (fail)
            go_wp2
            go_ret
            refine ⟨?_, below_drewN (below_drewN (bth hB2 HB.out) _) _⟩
            rw [← cmp_top10 cx.1 cy.1 Hl.out (by omega) Hdr.out (by omega), cmpI_gt (by omega)]
            rfl
          · have dgt : ¬ ((nth xs j : Nat) : Int) > ((nth ys j : Nat) : Int) := by omega
            go_wp2
            go_quiet (fail)
            go_wp2
            go_quiet (fail)
            go_wp2
            go_roundw
            case rel => exact ⟨j, _, rfl, rfl, by omega, drop_eq_step (by omega) hjy Hdr.out (by omega), below_drewN HB.out _⟩
            case measure => simp [intOf]
  · have hl' : ((xs.length : Int) != (ys.length : Int)) = true := by simp; omega
    have hcl := cmp_len10 cx cy hl
    by_cases hlt : xs.length < ys.length
    · have dlt : (xs.length : Int) < (ys.length : Int) := by omega
      rw [cmpI_lt dlt] at hcl
      have Hcl := hide hcl
      have Hl := hide hl
      clear hcl hl q1 q2
      go_wp2
      go_ret
      exact ⟨by rw [← Hcl.out]; rfl, hB2⟩
    · have dlt : ¬ (xs.length : Int) < (ys.length : Int) := by omega
      rw [cmpI_gt (by omega)] at hcl
      have Hcl := hide hcl
      have Hl := hide hl
      clear hcl hl q1 q2
      go_wp2
      go_ret
      exact ⟨by rw [← Hcl.out]; rfl, hB2⟩

end Go.Proofs.YtkdhcpfmlelfcaaGreatDoor

/- The reference's Sub: the difference of two numbers of which the second isn't greater. -/
namespace Go.Proofs.YtkdhcpfmlelfcaaGreatDoor
set_option linter.unusedVariables false
set_option linter.unusedSimpArgs false
open Go Go.RowKit Go.Shelf

theorem sub_step10 {xs ys ds : List Nat} {c c' k s : Nat} (hl : ds.length = k) (h : val 10 ds + val 10 (ys.take k) = val 10 (xs.take k) + 10 ^ k * c) (hs : s + nth ys k + c = nth xs k + 10 * c') :
    val 10 (ds ++ [s]) + val 10 (ys.take (k + 1)) = val 10 (xs.take (k + 1)) + 10 ^ (k + 1) * c' := by
  rw [val_take_nth, val_take_nth, val_snoc, hl, Nat.pow_succ, Nat.mul_assoc (10 ^ k) 10 c']
  have e : 10 ^ k * (s + nth ys k + c) = 10 ^ k * (nth xs k + 10 * c') := by rw [hs]
  rw [Nat.mul_add, Nat.mul_add, Nat.mul_add] at e
  omega

theorem small_one {ds : List Nat} (hs : Small 10 ds) {s : Nat} (h : s < 10) : Small 10 (ds ++ [s]) := hs.append (fun x hx => by rw [List.mem_singleton.1 hx]; exact h)

theorem sub_end {xs ys ds : List Nat} {c : Nat} (hs : Small 10 ds) (hxs : Small 10 xs) (cy : Canon 10 ys) (hl : ds.length = xs.length) (hle : val 10 ys ≤ val 10 xs) (h : val 10 ds + val 10 (ys.take xs.length) = val 10 (xs.take xs.length) + 10 ^ xs.length * c) : val 10 ds = val 10 xs - val 10 ys := by
  have hyl : ys.length ≤ xs.length := by
    apply Decidable.byContradiction
    intro hn
    have := canon_len_lt ten_pos hxs cy (by omega)
    omega
  rw [List.take_of_length_le hyl, List.take_of_length_le (Nat.le_refl _)] at h
  have hd := val_lt hs
  rw [hl] at hd
  rcases Nat.eq_zero_or_pos c with rfl | hp
  · omega
  · have : 10 ^ xs.length * 1 ≤ 10 ^ xs.length * c := Nat.mul_le_mul_left _ hp
    omega

set_option maxRecDepth 100000 in
set_option maxHeartbeats 2000000 in
theorem rsub_calls {w : World} {av bv : Value} {m n : Nat} (hx : RArg w av m) (hy : RArg w bv n) (hmn : n ≤ m) :
    Calls Tryz.prog 96 #[av, bv] w fun e w' => ∃ rv, e = .returned rv ∧ RNew w.heap.size w' rv (m - n) ∧ Below w.heap.size w w' := by
  obtain ⟨xs, hx0, cx, rfl, lx⟩ := hx
  obtain ⟨ys, hy0, cy, rfl, ly⟩ := hy
  obtain ⟨ao, ca, rfl⟩ := hx0.len
  obtain ⟨bo, cb, rfl⟩ := hy0.len
  obtain ⟨i0, hi, hz0, hz1, hz2⟩ := info_parts infoI64
  have Hmn := hide hmn
  clear hmn
  go_enter Tryz.func96, Tryz.ntmps96
  go_wp2
  go_loopw [5, 6, 7] (fun out cv iv wr => ∃ (k c : Nat) (ds : List Nat), iv = .int .i64 (k : Int) ∧ cv = .int .i64 (c : Int) ∧ c ≤ 1 ∧ k ≤ xs.length ∧ Own w.heap.size wr out ds ∧ Small 10 ds ∧ ds.length = k ∧ val 10 ds + val 10 (ys.take k) = val 10 (xs.take k) + 10 ^ k * c ∧ Below w.heap.size w wr) (fun _ _ iv _ => xs.length - (intOf iv).toNat)
  case atStart => exact ⟨0, 0, [], rfl, rfl, by omega, by omega, Own.nil _ _, Small.nil _, rfl, by simp [val_nil], Below.refl _ _⟩
  case round =>
    obtain ⟨k, c, ds, rfl, rfl, hc1, hkM, hown, hs, hlen, hv, hB⟩ := hrel
    have Hs := hide hs
    have Hv := hide hv
    have HB := hide hB
    have Hown := hide hown
    have Hlen := hide hlen
    clear hs hv hB hown hlen
    have hdl : ds.length ≤ 100001 := by have := Hlen.out; omega
    have hwr : w.heap.size ≤ wr.heap.size := HB.out.size
    have hx9 : nth xs k < 10 := hx0.small.nth (by decide) k
    have hy9 : nth ys k < 10 := hy0.small.nth (by decide) k
    by_cases hkx : k < xs.length
    · have dx : (k : Int) < (xs.length : Int) := by omega
      obtain ⟨b1, o1, ea⟩ := hx0.addr hkx
      subst ea
      have c1 : wr.cell? ⟨b1, o1 + k, none⟩ = some (.int .i64 ((nth xs k : Nat) : Int)) := (hx0.below HB.out).cellAt rfl hkx
      by_cases hky : k < ys.length
      · have dy : (k : Int) < (ys.length : Int) := by omega
        obtain ⟨b2, o2, eb⟩ := hy0.addr hky
        subst eb
        have c2 : wr.cell? ⟨b2, o2 + k, none⟩ = some (.int .i64 ((nth ys k : Nat) : Int)) := (hy0.below HB.out).cellAt rfl hky
        by_cases hneg : nth xs k < c + nth ys k
        · obtain ⟨s, hsum⟩ : ∃ s : Nat, s = nth xs k + 10 - c - nth ys k := ⟨_, rfl⟩
          have hS : ((nth xs k : Nat) : Int) - (c : Int) - ((nth ys k : Nat) : Int) + 10 = (s : Int) := by omega
          have hng : ((nth xs k : Nat) : Int) - (c : Int) - ((nth ys k : Nat) : Int) < 0 := by omega
          have hs10 : s < 10 := by omega
          have hstep : s + nth ys k + c = nth xs k + 10 * 1 := by omega
          clear hsum
          have HX := hide hx0
          have HY := hide hy0
          clear hx0 hy0
          go_wp2_with (at_builtin; go_must (refine wpList_append_own _ rfl (.tmp 35) (.tmp 37) 30 rfl w.heap.size 3 i0 (.int .i64 0) 1 8 Tryz.underlying30 hi hz0 hz1 hz2 rfl (by decide) _ ds.length (dcells ds) rfl (by exact World.ownsRow.alloc Hown.out _) ⟨wr.heap.size, 0, none⟩ 1 1 [.int .i64 ((s : Nat) : Int)] rfl rfl (by exact World.news_of_block (World.alloc_heap_new _ _)) one_cell (by unfold maxLen; omega) (by omega) (by simp; omega) ?_; intro v' w1 hown' hgrow hnil))
          have hp := Own.pushed Hown.out HB.out (Nat.le_refl _) HB.out.size hown' hgrow
          go_roundw
          case rel => exact ⟨k + 1, 1, ds ++ [s], by go_num, rfl, by omega, by omega, hp.1, small_one Hs.out hs10, by rw [List.length_append, Hlen.out]; rfl, sub_step10 Hlen.out Hv.out hstep, hp.2.1⟩
          case measure => simp [intOf]; omega
        · obtain ⟨s, hsum⟩ : ∃ s : Nat, s = nth xs k - c - nth ys k := ⟨_, rfl⟩
          have hS : ((nth xs k : Nat) : Int) - (c : Int) - ((nth ys k : Nat) : Int) = (s : Int) := by omega
          have hng : ¬ (s : Int) < 0 := by omega
          have hs10 : s < 10 := by omega
          have hstep : s + nth ys k + c = nth xs k + 10 * 0 := by omega
          clear hsum
          have HX := hide hx0
          have HY := hide hy0
          clear hx0 hy0
          go_wp2_with (at_builtin; go_must (refine wpList_append_own _ rfl (.tmp 35) (.tmp 37) 30 rfl w.heap.size 3 i0 (.int .i64 0) 1 8 Tryz.underlying30 hi hz0 hz1 hz2 rfl (by decide) _ ds.length (dcells ds) rfl (by exact World.ownsRow.alloc Hown.out _) ⟨wr.heap.size, 0, none⟩ 1 1 [.int .i64 ((s : Nat) : Int)] rfl rfl (by exact World.news_of_block (World.alloc_heap_new _ _)) one_cell (by unfold maxLen; omega) (by omega) (by simp; omega) ?_; intro v' w1 hown' hgrow hnil))
          have hp := Own.pushed Hown.out HB.out (Nat.le_refl _) HB.out.size hown' hgrow
          go_roundw
          case rel => exact ⟨k + 1, 0, ds ++ [s], by go_num, rfl, by omega, by omega, hp.1, small_one Hs.out hs10, by rw [List.length_append, Hlen.out]; rfl, sub_step10 Hlen.out Hv.out hstep, hp.2.1⟩
          case measure => simp [intOf]; omega
      · have dy : ¬ (k : Int) < (ys.length : Int) := by omega
        have zy : nth ys k = 0 := nth_ge (by omega)
        by_cases hneg : nth xs k < c + nth ys k
        · obtain ⟨s, hsum⟩ : ∃ s : Nat, s = nth xs k + 10 - c - nth ys k := ⟨_, rfl⟩
          have hS : ((nth xs k : Nat) : Int) - (c : Int) + 10 = (s : Int) := by omega
          have hng : ((nth xs k : Nat) : Int) - (c : Int) < 0 := by omega
          have hs10 : s < 10 := by omega
          have hstep : s + nth ys k + c = nth xs k + 10 * 1 := by omega
          clear hsum
          have HX := hide hx0
          have HY := hide hy0
          clear hx0 hy0
          go_wp2_with (at_builtin; go_must (refine wpList_append_own _ rfl (.tmp 35) (.tmp 37) 30 rfl w.heap.size 3 i0 (.int .i64 0) 1 8 Tryz.underlying30 hi hz0 hz1 hz2 rfl (by decide) _ ds.length (dcells ds) rfl (by exact World.ownsRow.alloc Hown.out _) ⟨wr.heap.size, 0, none⟩ 1 1 [.int .i64 ((s : Nat) : Int)] rfl rfl (by exact World.news_of_block (World.alloc_heap_new _ _)) one_cell (by unfold maxLen; omega) (by omega) (by simp; omega) ?_; intro v' w1 hown' hgrow hnil))
          have hp := Own.pushed Hown.out HB.out (Nat.le_refl _) HB.out.size hown' hgrow
          go_roundw
          case rel => exact ⟨k + 1, 1, ds ++ [s], by go_num, rfl, by omega, by omega, hp.1, small_one Hs.out hs10, by rw [List.length_append, Hlen.out]; rfl, sub_step10 Hlen.out Hv.out hstep, hp.2.1⟩
          case measure => simp [intOf]; omega
        · obtain ⟨s, hsum⟩ : ∃ s : Nat, s = nth xs k - c - nth ys k := ⟨_, rfl⟩
          have hS : ((nth xs k : Nat) : Int) - (c : Int) = (s : Int) := by omega
          have hng : ¬ (s : Int) < 0 := by omega
          have hs10 : s < 10 := by omega
          have hstep : s + nth ys k + c = nth xs k + 10 * 0 := by omega
          clear hsum
          have HX := hide hx0
          have HY := hide hy0
          clear hx0 hy0
          go_wp2_with (at_builtin; go_must (refine wpList_append_own _ rfl (.tmp 35) (.tmp 37) 30 rfl w.heap.size 3 i0 (.int .i64 0) 1 8 Tryz.underlying30 hi hz0 hz1 hz2 rfl (by decide) _ ds.length (dcells ds) rfl (by exact World.ownsRow.alloc Hown.out _) ⟨wr.heap.size, 0, none⟩ 1 1 [.int .i64 ((s : Nat) : Int)] rfl rfl (by exact World.news_of_block (World.alloc_heap_new _ _)) one_cell (by unfold maxLen; omega) (by omega) (by simp; omega) ?_; intro v' w1 hown' hgrow hnil))
          have hp := Own.pushed Hown.out HB.out (Nat.le_refl _) HB.out.size hown' hgrow
          go_roundw
          case rel => exact ⟨k + 1, 0, ds ++ [s], by go_num, rfl, by omega, by omega, hp.1, small_one Hs.out hs10, by rw [List.length_append, Hlen.out]; rfl, sub_step10 Hlen.out Hv.out hstep, hp.2.1⟩
          case measure => simp [intOf]; omega
    · have dx : ¬ (k : Int) < (xs.length : Int) := by omega
      obtain rfl : k = xs.length := by omega
      have hvv := sub_end Hs.out cx.1 cy Hlen.out Hmn.out Hv.out
      have Hvv := hide hvv
      have HX := hide hx0
      have HY := hide hy0
      clear hx0 hy0 hvv
      go_wp2_with (go_at_call 88; go_must (refine (trim_res wr _ ds (Hown.out.digs Hs.out) (by omega)).mono ?_; rintro e w1 ⟨rv, rfl, hr, hb1⟩))
      go_ret
      rw [Hvv.out] at hr
      exact ⟨_, rfl, hr.mono HB.out.size, HB.out.trans (hb1.mono HB.out.size)⟩

end Go.Proofs.YtkdhcpfmlelfcaaGreatDoor

/- What the reference's DivMod works on: a block of digits, written in place; its reckoning. -/
namespace Go.Proofs.YtkdhcpfmlelfcaaGreatDoor
set_option linter.unusedVariables false
set_option linter.unusedSimpArgs false
open Go Go.RowKit Go.Shelf

/-- Block g holds the digits zs, and nothing else. -/
def RowI (W : World) (g : Nat) (zs : List Nat) : Prop := W.heap[g]? = some (.cells (dcells zs).toArray 3 (0, 0))

theorem RowI.lt {W : World} {g : Nat} {zs : List Nat} (h : RowI W g zs) : g < W.heap.size := (Array.getElem?_eq_some_iff.1 h).1

theorem RowI.cell {W : World} {g : Nat} {zs : List Nat} (h : RowI W g zs) {j : Nat} (hj : j < zs.length) : W.cell? ⟨g, j, none⟩ = some (.int .i64 ((nth zs j : Nat) : Int)) := by
  rw [cell_of_row W g j _ _ _ h, nth_eq hj]
  simp [dcells, hj]

theorem RowI.frozen {W : World} {g : Nat} {zs : List Nat} (h : RowI W g zs) (j : Nat) : W.frozen? ⟨g, j, none⟩ = false := frozen_of_row W g j _ _ h

theorem RowI.set {W : World} {g : Nat} {zs : List Nat} (h : RowI W g zs) (j v : Nat) : RowI (W.setCell ⟨g, j, none⟩ (.int .i64 (v : Int))) g (zs.set j v) := by
  unfold RowI
  rw [heap_setCell_same W g j _ _ _ h]
  simp [dcells, List.map_set]

theorem RowI.keep {W W' : World} {g : Nat} {zs : List Nat} (h : RowI W g zs) (hb : Below W.heap.size W W') : RowI W' g zs := (hb.block g h.lt).trans h

theorem RowI.digs {W : World} {g : Nat} {zs : List Nat} (h : RowI W g zs) (hs : Small 10 zs) : Digs W (.slice (some ⟨g, 0, none⟩) zs.length zs.length) zs :=
  ⟨some ⟨g, 0, none⟩, zs.length, rfl, Nat.le_refl _, hs, fun j hj => ⟨g, 0, rfl, by rw [Nat.zero_add]; exact h.cell hj⟩⟩

set_option maxRecDepth 100000 in
theorem run_mkI (n : Nat) (hn : n ≤ 1000000) (w : World) : ∃ w', (Instr.makeSlice 30 (.int .i64 (n : Int)) (.int .i64 (n : Int))).run Tryz.prog w = .ok (.slice (some ⟨w.heap.size, 0, none⟩) n n) w' ∧ RowI w' w.heap.size (List.replicate n 0) ∧ Below w.heap.size w w' ∧ w'.heap.size = w.heap.size + 1 := by
  obtain ⟨i0, hi, hz0, hz1, hz2⟩ := info_parts infoI64
  have hr := run_make (P := Tryz.prog) w 30 3 i0 _ Tryz.underlying30 hi hz0 .i64 .i64 n n (by omega) (Int.le_refl _) (by rw [hz2]; omega) (by omega)
  rw [Int.toNat_natCast, hz1] at hr
  refine ⟨_, hr, ?_, (Below.refl _ w).alloc (Nat.le_refl _) _, by simp⟩
  unfold RowI
  rw [World.alloc_heap_new]
  congr 1
  have : madeCells (Value.int .i64 0).cells (n * 1) = (dcells (List.replicate n 0)).toArray := by
    apply Array.ext'
    show (madeCells #[Value.int .i64 0] (n * 1)).toList = _
    rw [toList_madeCells_one]
    simp [dcells]
  rw [this]

theorem wpList_mkI {ops : Array Oper} {rest : List Oper} {o : Oper} {a : Act} {w : World} {Q : Exit → Act → World → Prop} (hg : o.guard = none) (x : Operand) (hop : o.op = .makeSlice 30 x x) (n : Nat) (hx : a.eval x = .int .i64 (n : Int)) (hn : n ≤ 1000000)
    (h : ∀ w', RowI w' w.heap.size (List.replicate n 0) → Below w.heap.size w w' → w'.heap.size = w.heap.size + 1 → wpList Tryz.prog ops Q rest (a.put o.dst (.slice (some ⟨w.heap.size, 0, none⟩) n n)) w') : wpList Tryz.prog ops Q (o :: rest) a w := by
  refine wpList_plain hg fun K hK => ?_
  obtain ⟨w', hrun, h2, h3, h4⟩ := run_mkI n hn w
  unfold Oper.wp
  simp [execOp, hop, hx, hrun, Result.andThen]
  exact hK _ _ (h w' h2 h3 h4)

theorem RNew.setBelow {n₀ : Nat} {W : World} {v : Value} {n g j : Nat} (h : RNew n₀ W v n) (hg : g < n₀) (u : Value) : RNew n₀ (W.setCell ⟨g, j, none⟩ u) v n := by
  obtain ⟨ds, h1, h2⟩ := h
  exact ⟨ds, ownsRow_setCell_below h1 hg u, h2⟩

theorem RNew.keep {n₀ : Nat} {W W' : World} {v : Value} {n : Nat} (h : RNew n₀ W v n) (hb : Below W.heap.size W W') : RNew n₀ W' v n := by
  obtain ⟨ds, h1, h2⟩ := h
  exact ⟨ds, h1.keep hb, h2⟩

theorem RNew.nil (n₀ : Nat) (W : World) : RNew n₀ W (.slice none 0 0) 0 := ⟨[], Own.nil _ _, canon_nil 10, rfl⟩

theorem add_new {W W' : World} {av bv : Value} {m n : Nat} (hb : Below W.heap.size W W') (hx : RArg W av m) (hy : RArg W bv n) :
    Calls Tryz.prog 94 #[av, bv] W' fun e w' => ∃ rv, e = .returned rv ∧ RNew W.heap.size w' rv (m + n) ∧ Below W.heap.size W w' := by
  obtain ⟨xs, h1, h2, rfl, h3⟩ := hx
  obtain ⟨ys, k1, k2, rfl, k3⟩ := hy
  refine (radd_calls W' av bv xs ys (h1.below hb) (k1.below hb) h3 k3).mono ?_
  rintro e w' ⟨rv, rfl, h4, h5⟩
  exact ⟨rv, rfl, h4.mono hb.size, hb.trans (h5.mono hb.size)⟩

/-- One digit more of the quotient. -/
theorem rdiv_step {zs : List Nat} {n r x c r' j X : Nat} (hj : j < zs.length) (hX : X = val 10 (zs.drop (j + 1)) * n + r) (hc : c * n + r' = r * 10 + x) :
    x + 10 * X = val 10 ((zs.set j c).drop j) * n + r' := by
  have e : (zs.set j c).drop j = c :: zs.drop (j + 1) := by
    rw [List.drop_eq_getElem_cons (by simpa using hj), List.drop_set_of_lt (by omega)]
    simp
  rw [e, val_cons, hX, Nat.add_mul, Nat.mul_add, Nat.mul_assoc]
  omega

theorem div_count {n r x c r' : Nat} (hr : r < n) (hx : x < 10) (hc : c * n + r' = r * 10 + x) : c < 10 := by
  apply Decidable.byContradiction
  intro h
  have h1 : 10 * n ≤ c * n := Nat.mul_le_mul_right _ (by omega)
  omega

end Go.Proofs.YtkdhcpfmlelfcaaGreatDoor
