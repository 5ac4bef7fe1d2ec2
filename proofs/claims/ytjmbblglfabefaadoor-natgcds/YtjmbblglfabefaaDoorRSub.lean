/- The reference's Sub: the difference of two numbers of which the second isn't greater. -/
import Derived.Test.YtjmbblglfabefaaDoorRCmp
namespace Go.Proofs.YtjmbblglfabefaaDoor
set_option linter.unusedVariables false
set_option linter.unusedSimpArgs false
open Go Go.RowKit Go.Shelf

theorem sub_step10 {xs ys ds : List Nat} {c c' k s : Nat} (hl : ds.length = k) (h : val 10 ds + val 10 (ys.take k) = val 10 (xs.take k) + 10 ^ k * c) (hs : s + nth ys k + c = nth xs k + 10 * c') :
    val 10 (ds ++ [s]) + val 10 (ys.take (k + 1)) = val 10 (xs.take (k + 1)) + 10 ^ (k + 1) * c' := by
  rw [val_take_nth, val_take_nth, val_snoc, hl, Nat.pow_succ, Nat.mul_assoc (10 ^ k) 10 c']
  have e : 10 ^ k * (s + nth ys k + c) = 10 ^ k * (nth xs k + 10 * c') := by rw [hs]
  rw [Nat.mul_add, Nat.mul_add, Nat.mul_add] at e
  omega

theorem small_one {ds : List Nat} (hs : Small 10 ds) {s : Nat} (h : s < 10) : Small 10 (ds ++ [s]) := hs.append (fun x hx => by rw [List.mem_singleton.1 hx]; exact h)

theorem sub_end {xs ys ds : List Nat} {c : Nat} (hs : Small 10 ds) (hxs : Small 10 xs) (cy : Canon 10 ys) (hl : ds.length = xs.length) (hle : val 10 ys ≤ val 10 xs) (h : val 10 ds + val 10 (ys.take xs.length) = val 10 (xs.take xs.length) + 10 ^ xs.length * c) : val 10 ds = val 10 xs - val 10 ys := by
  have hyl : ys.length ≤ xs.length := by
    apply Decidable.byContradiction
    intro hn
    have := canon_len_lt ten_pos hxs cy (by omega)
    omega
  rw [List.take_of_length_le hyl, List.take_of_length_le (Nat.le_refl _)] at h
  have hd := val_lt hs
  rw [hl] at hd
  rcases Nat.eq_zero_or_pos c with rfl | hp
  · omega
  · have : 10 ^ xs.length * 1 ≤ 10 ^ xs.length * c := Nat.mul_le_mul_left _ hp
    omega

set_option maxRecDepth 100000 in
set_option maxHeartbeats 2000000 in
theorem rsub_calls {w : World} {av bv : Value} {m n : Nat} (hx : RArg w av m) (hy : RArg w bv n) (hmn : n ≤ m) :
    Calls Tryd.prog 48 #[av, bv] w fun e w' => ∃ rv, e = .returned rv ∧ RNew w.heap.size w' rv (m - n) ∧ Below w.heap.size w w' := by
  obtain ⟨xs, hx0, cx, rfl, lx⟩ := hx
  obtain ⟨ys, hy0, cy, rfl, ly⟩ := hy
  obtain ⟨ao, ca, rfl⟩ := hx0.len
  obtain ⟨bo, cb, rfl⟩ := hy0.len
  obtain ⟨i0, hi, hz0, hz1, hz2⟩ := info_parts infoI64
  have Hmn := hide hmn
  clear hmn
  go_enter Tryd.func48, Tryd.ntmps48
  go_wp2
  go_loopw [5, 6, 7] (fun out cv iv wr => ∃ (k c : Nat) (ds : List Nat), iv = .int .i64 (k : Int) ∧ cv = .int .i64 (c : Int) ∧ c ≤ 1 ∧ k ≤ xs.length ∧ Own w.heap.size wr out ds ∧ Small 10 ds ∧ ds.length = k ∧ val 10 ds + val 10 (ys.take k) = val 10 (xs.take k) + 10 ^ k * c ∧ Below w.heap.size w wr) (fun _ _ iv _ => xs.length - (intOf iv).toNat)
  case atStart => exact ⟨0, 0, [], rfl, rfl, by omega, by omega, Own.nil _ _, Small.nil _, rfl, by simp [val_nil], Below.refl _ _⟩
  case round =>
    obtain ⟨k, c, ds, rfl, rfl, hc1, hkM, hown, hs, hlen, hv, hB⟩ := hrel
    have Hs := hide hs
    have Hv := hide hv
    have HB := hide hB
    have Hown := hide hown
    have Hlen := hide hlen
    clear hs hv hB hown hlen
    have hdl : ds.length ≤ 100001 := by have := Hlen.out; omega
    have hwr : w.heap.size ≤ wr.heap.size := HB.out.size
    have hx9 : nth xs k < 10 := hx0.small.nth (by decide) k
    have hy9 : nth ys k < 10 := hy0.small.nth (by decide) k
    by_cases hkx : k < xs.length
    · have dx : (k : Int) < (xs.length : Int) := by omega
      obtain ⟨b1, o1, ea⟩ := hx0.addr hkx
      subst ea
      have c1 : wr.cell? ⟨b1, o1 + k, none⟩ = some (.int .i64 ((nth xs k : Nat) : Int)) := (hx0.below HB.out).cellAt rfl hkx
      by_cases hky : k < ys.length
      · have dy : (k : Int) < (ys.length : Int) := by omega
        obtain ⟨b2, o2, eb⟩ := hy0.addr hky
        subst eb
        have c2 : wr.cell? ⟨b2, o2 + k, none⟩ = some (.int .i64 ((nth ys k : Nat) : Int)) := (hy0.below HB.out).cellAt rfl hky
        by_cases hneg : nth xs k < c + nth ys k
        · obtain ⟨s, hsum⟩ : ∃ s : Nat, s = nth xs k + 10 - c - nth ys k := ⟨_, rfl⟩
          have hS : ((nth xs k : Nat) : Int) - (c : Int) - ((nth ys k : Nat) : Int) + 10 = (s : Int) := by omega
          have hng : ((nth xs k : Nat) : Int) - (c : Int) - ((nth ys k : Nat) : Int) < 0 := by omega
          have hs10 : s < 10 := by omega
          have hstep : s + nth ys k + c = nth xs k + 10 * 1 := by omega
          clear hsum
          have HX := hide hx0
          have HY := hide hy0
          clear hx0 hy0
          go_wp2_with (at_builtin; go_must (refine wpList_append_own _ rfl (.tmp 35) (.tmp 37) 27 rfl w.heap.size 3 i0 (.int .i64 0) 1 8 Tryd.underlying27 hi hz0 hz1 hz2 rfl (by decide) _ ds.length (dcells ds) rfl (by exact World.ownsRow.alloc Hown.out _) ⟨wr.heap.size, 0, none⟩ 1 1 [.int .i64 ((s : Nat) : Int)] rfl rfl (by exact World.news_of_block (World.alloc_heap_new _ _)) one_cell (by unfold maxLen; omega) (by omega) (by simp; omega) ?_; intro v' w1 hown' hgrow hnil))
          have hp := Own.pushed Hown.out HB.out (Nat.le_refl _) HB.out.size hown' hgrow
          go_roundw
          case rel => exact ⟨k + 1, 1, ds ++ [s], by go_num, rfl, by omega, by omega, hp.1, small_one Hs.out hs10, by rw [List.length_append, Hlen.out]; rfl, sub_step10 Hlen.out Hv.out hstep, hp.2.1⟩
          case measure => simp [intOf]; omega
        · obtain ⟨s, hsum⟩ : ∃ s : Nat, s = nth xs k - c - nth ys k := ⟨_, rfl⟩
          have hS : ((nth xs k : Nat) : Int) - (c : Int) - ((nth ys k : Nat) : Int) = (s : Int) := by omega
          have hng : ¬ (s : Int) < 0 := by omega
          have hs10 : s < 10 := by omega
          have hstep : s + nth ys k + c = nth xs k + 10 * 0 := by omega
          clear hsum
          have HX := hide hx0
          have HY := hide hy0
          clear hx0 hy0
          go_wp2_with (at_builtin; go_must (refine wpList_append_own _ rfl (.tmp 35) (.tmp 37) 27 rfl w.heap.size 3 i0 (.int .i64 0) 1 8 Tryd.underlying27 hi hz0 hz1 hz2 rfl (by decide) _ ds.length (dcells ds) rfl (by exact World.ownsRow.alloc Hown.out _) ⟨wr.heap.size, 0, none⟩ 1 1 [.int .i64 ((s : Nat) : Int)] rfl rfl (by exact World.news_of_block (World.alloc_heap_new _ _)) one_cell (by unfold maxLen; omega) (by omega) (by simp; omega) ?_; intro v' w1 hown' hgrow hnil))
          have hp := Own.pushed Hown.out HB.out (Nat.le_refl _) HB.out.size hown' hgrow
          go_roundw
          case rel => exact ⟨k + 1, 0, ds ++ [s], by go_num, rfl, by omega, by omega, hp.1, small_one Hs.out hs10, by rw [List.length_append, Hlen.out]; rfl, sub_step10 Hlen.out Hv.out hstep, hp.2.1⟩
          case measure => simp [intOf]; omega
      · have dy : ¬ (k : Int) < (ys.length : Int) := by omega
        have zy : nth ys k = 0 := nth_ge (by omega)
        by_cases hneg : nth xs k < c + nth ys k
        · obtain ⟨s, hsum⟩ : ∃ s : Nat, s = nth xs k + 10 - c - nth ys k := ⟨_, rfl⟩
          have hS : ((nth xs k : Nat) : Int) - (c : Int) + 10 = (s : Int) := by omega
          have hng : ((nth xs k : Nat) : Int) - (c : Int) < 0 := by omega
          have hs10 : s < 10 := by omega
          have hstep : s + nth ys k + c = nth xs k + 10 * 1 := by omega
          clear hsum
          have HX := hide hx0
          have HY := hide hy0
          clear hx0 hy0
          go_wp2_with (at_builtin; go_must (refine wpList_append_own _ rfl (.tmp 35) (.tmp 37) 27 rfl w.heap.size 3 i0 (.int .i64 0) 1 8 Tryd.underlying27 hi hz0 hz1 hz2 rfl (by decide) _ ds.length (dcells ds) rfl (by exact World.ownsRow.alloc Hown.out _) ⟨wr.heap.size, 0, none⟩ 1 1 [.int .i64 ((s : Nat) : Int)] rfl rfl (by exact World.news_of_block (World.alloc_heap_new _ _)) one_cell (by unfold maxLen; omega) (by omega) (by simp; omega) ?_; intro v' w1 hown' hgrow hnil))
          have hp := Own.pushed Hown.out HB.out (Nat.le_refl _) HB.out.size hown' hgrow
          go_roundw
          case rel => exact ⟨k + 1, 1, ds ++ [s], by go_num, rfl, by omega, by omega, hp.1, small_one Hs.out hs10, by rw [List.length_append, Hlen.out]; rfl, sub_step10 Hlen.out Hv.out hstep, hp.2.1⟩
          case measure => simp [intOf]; omega
        · obtain ⟨s, hsum⟩ : ∃ s : Nat, s = nth xs k - c - nth ys k := ⟨_, rfl⟩
          have hS : ((nth xs k : Nat) : Int) - (c : Int) = (s : Int) := by omega
          have hng : ¬ (s : Int) < 0 := by omega
          have hs10 : s < 10 := by omega
          have hstep : s + nth ys k + c = nth xs k + 10 * 0 := by omega
          clear hsum
          have HX := hide hx0
          have HY := hide hy0
          clear hx0 hy0
          go_wp2_with (at_builtin; go_must (refine wpList_append_own _ rfl (.tmp 35) (.tmp 37) 27 rfl w.heap.size 3 i0 (.int .i64 0) 1 8 Tryd.underlying27 hi hz0 hz1 hz2 rfl (by decide) _ ds.length (dcells ds) rfl (by exact World.ownsRow.alloc Hown.out _) ⟨wr.heap.size, 0, none⟩ 1 1 [.int .i64 ((s : Nat) : Int)] rfl rfl (by exact World.news_of_block (World.alloc_heap_new _ _)) one_cell (by unfold maxLen; omega) (by omega) (by simp; omega) ?_; intro v' w1 hown' hgrow hnil))
          have hp := Own.pushed Hown.out HB.out (Nat.le_refl _) HB.out.size hown' hgrow
          go_roundw
          case rel => exact ⟨k + 1, 0, ds ++ [s], by go_num, rfl, by omega, by omega, hp.1, small_one Hs.out hs10, by rw [List.length_append, Hlen.out]; rfl, sub_step10 Hlen.out Hv.out hstep, hp.2.1⟩
          case measure => simp [intOf]; omega
    · have dx : ¬ (k : Int) < (xs.length : Int) := by omega
      obtain rfl : k = xs.length := by omega
      have hvv := sub_end Hs.out cx.1 cy Hlen.out Hmn.out Hv.out
      have Hvv := hide hvv
      have HX := hide hx0
      have HY := hide hy0
      clear hx0 hy0 hvv
      go_wp2_with (go_at_call 28; go_must (refine (trim_res wr _ ds (Hown.out.digs Hs.out) (by omega)).mono ?_; rintro e w1 ⟨rv, rfl, hr, hb1⟩))
      go_ret
      rw [Hvv.out] at hr
      exact ⟨_, rfl, hr.mono HB.out.size, HB.out.trans (hb1.mono HB.out.size)⟩

end Go.Proofs.YtjmbblglfabefaaDoor
