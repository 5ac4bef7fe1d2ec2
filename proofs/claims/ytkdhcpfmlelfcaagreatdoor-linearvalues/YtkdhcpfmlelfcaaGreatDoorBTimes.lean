/- The reference's Add: the sum of two numbers, digit by digit. The reference's Times: a number times a small one. -/
import Derived.Test.YtkdhcpfmlelfcaaGreatDoorBDigs

/- The reference's Add: the sum of two numbers, digit by digit. -/
namespace Go.Proofs.YtkdhcpfmlelfcaaGreatDoor
set_option linter.unusedVariables false
set_option linter.unusedSimpArgs false
open Go Go.RowKit Go.Shelf

theorem Digs.cellAt {W : World} {ao : Option Addr} {n cap : Nat} {ds : List Nat} (h : Digs W (.slice ao n cap) ds) {b off : Nat} (ha : ao = some ⟨b, off, none⟩) {j : Nat} (hj : j < ds.length) : W.cell? ⟨b, off + j, none⟩ = some (.int .i64 ((nth ds j : Nat) : Int)) := by
  obtain ⟨b', off', e, hc⟩ := h.cells j hj
  rw [ha] at e
  cases e
  exact hc

theorem Digs.addr {W : World} {ao : Option Addr} {n cap : Nat} {ds : List Nat} (h : Digs W (.slice ao n cap) ds) {j : Nat} (hj : j < ds.length) : ∃ b off, ao = some ⟨b, off, none⟩ := by
  obtain ⟨b', off', e, hc⟩ := h.cells j hj
  exact ⟨b', off', e⟩

theorem small_digit {ds : List Nat} (hs : Small 10 ds) (s : Nat) : Small 10 (ds ++ [s % 10]) := hs.append (fun x hx => by rw [List.mem_singleton.1 hx]; exact Nat.mod_lt _ (by decide))

theorem add_step {xs ys ds : List Nat} {c k : Nat} (hl : ds.length = k) (h : val 10 ds + 10 ^ k * c = val 10 (xs.take k) + val 10 (ys.take k)) {s : Nat} (hs : s = c + nth xs k + nth ys k) :
    val 10 (ds ++ [s % 10]) + 10 ^ (k + 1) * (s / 10) = val 10 (xs.take (k + 1)) + val 10 (ys.take (k + 1)) := by
  have e : s = nth xs k + nth ys k + c := by omega
  rw [val_take_nth, val_take_nth, val_snoc, hl, Nat.pow_succ, e]
  exact carry_step h

/-- What the loop of Add keeps. -/
def RAddInv (w wr : World) (xs ys : List Nat) (k c : Nat) (out : Value) : Prop :=
  ∃ ds, Own w.heap.size wr out ds ∧ Small 10 ds ∧ ds.length = k ∧ val 10 ds + 10 ^ k * c = val 10 (xs.take k) + val 10 (ys.take k) ∧ Below w.heap.size w wr

set_option maxRecDepth 100000 in
set_option maxHeartbeats 2000000 in
theorem radd_calls (w : World) (av bv : Value) (xs ys : List Nat) (hx0 : Digs w av xs) (hy0 : Digs w bv ys) (lx : xs.length ≤ 100000) (ly : ys.length ≤ 100000) :
    Calls Tryz.prog 94 #[av, bv] w fun e w' => ∃ rv, e = .returned rv ∧ RNew w.heap.size w' rv (val 10 xs + val 10 ys) ∧ Below w.heap.size w w' := by
  obtain ⟨ao, ca, rfl⟩ := hx0.len
  obtain ⟨bo, cb, rfl⟩ := hy0.len
  obtain ⟨i0, hi, hz0, hz1, hz2⟩ := info_parts infoI64
  obtain ⟨M, hM⟩ : ∃ M, M = max xs.length ys.length := ⟨_, rfl⟩
  have hM1 : xs.length ≤ M := by omega
  have hM2 : ys.length ≤ M := by omega
  have hM3 : M ≤ 100000 := by omega
  have HM := hide hM
  clear hM
  go_enter Tryz.func94, Tryz.ntmps94
  go_wp2
  go_loopw [5, 6, 7] (fun out cv iv wr => ∃ (k c : Nat), iv = .int .i64 (k : Int) ∧ cv = .int .i64 (c : Int) ∧ c ≤ 1 ∧ k ≤ M + 1 ∧ (k = M + 1 → c = 0) ∧ RAddInv w wr xs ys k c out) (fun _ _ iv _ => M + 2 - (intOf iv).toNat)
  case atStart => exact ⟨0, 0, rfl, rfl, by omega, by omega, fun _ => rfl, [], Own.nil _ _, Small.nil _, rfl, by simp [val_nil], Below.refl _ _⟩
  case round =>
    obtain ⟨k, c, rfl, rfl, hc1, hkM, hkc, hinv⟩ := hrel
    obtain ⟨ds, hown, hs, hlen, hv, hB⟩ := hinv
    have Hs := hide hs
    have Hv := hide hv
    have HB := hide hB
    have Hown := hide hown
    have Hlen := hide hlen
    have Hkc := hide hkc
    clear hs hv hB hown hlen hkc
    have hdl : ds.length ≤ 100001 := by have := Hlen.out; omega
    have hwr : w.heap.size ≤ wr.heap.size := HB.out.size
    have hx9 : nth xs k < 10 := hx0.small.nth (by decide) k
    have hy9 : nth ys k < 10 := hy0.small.nth (by decide) k
    by_cases hkx : k < xs.length
    · have dx : (k : Int) < (xs.length : Int) := by omega
      by_cases hky : k < ys.length
      · have dy : (k : Int) < (ys.length : Int) := by omega
        obtain ⟨b1, o1, ea⟩ := hx0.addr hkx
        subst ea
        have c1 : wr.cell? ⟨b1, o1 + k, none⟩ = some (.int .i64 ((nth xs k : Nat) : Int)) := (hx0.below HB.out).cellAt rfl hkx
        obtain ⟨b2, o2, eb⟩ := hy0.addr hky
        subst eb
        have c2 : wr.cell? ⟨b2, o2 + k, none⟩ = some (.int .i64 ((nth ys k : Nat) : Int)) := (hy0.below HB.out).cellAt rfl hky
        obtain ⟨s, hsum⟩ : ∃ s : Nat, s = c + nth xs k + nth ys k := ⟨_, rfl⟩
        have Hsum := hide hsum
        have hs19 : s ≤ 19 := by omega
        have hS : (c : Int) + ((nth xs k : Nat) : Int) + ((nth ys k : Nat) : Int) = (s : Int) := by omega
        have hr := tmod10 s
        have hq := tdiv10 s
        have hlt : s % 10 < 10 := Nat.mod_lt _ (by decide)
        have HX := hide hx0
        have HY := hide hy0
        clear hx0 hy0 hsum
        go_wp2_with (at_builtin; go_must (refine wpList_append_own _ rfl (.tmp 46) (.tmp 49) 30 rfl w.heap.size 3 i0 (.int .i64 0) 1 8 Tryz.underlying30 hi hz0 hz1 hz2 rfl (by decide) _ ds.length (dcells ds) rfl (by exact World.ownsRow.alloc Hown.out _) ⟨wr.heap.size, 0, none⟩ 1 1 [.int .i64 ((s % 10 : Nat) : Int)] rfl rfl (by exact World.news_of_block (World.alloc_heap_new _ _)) one_cell (by unfold maxLen; omega) (by omega) (by simp; omega) ?_; intro v' w1 hown' hgrow hnil))
        have hp := Own.pushed Hown.out HB.out (Nat.le_refl _) HB.out.size hown' hgrow
        go_roundw
        case rel => exact ⟨k + 1, s / 10, by go_num, by go_num, by omega, by omega, fun h => by omega, ds ++ [s % 10], hp.1, small_digit Hs.out s, by rw [List.length_append, Hlen.out]; rfl, add_step Hlen.out Hv.out Hsum.out, hp.2.1⟩
        case measure => simp [intOf]; omega
      · have dy : ¬ (k : Int) < (ys.length : Int) := by omega
        obtain ⟨b1, o1, ea⟩ := hx0.addr hkx
        subst ea
        have c1 : wr.cell? ⟨b1, o1 + k, none⟩ = some (.int .i64 ((nth xs k : Nat) : Int)) := (hx0.below HB.out).cellAt rfl hkx
        have zy : nth ys k = 0 := nth_ge (by omega)
        obtain ⟨s, hsum⟩ : ∃ s : Nat, s = c + nth xs k + nth ys k := ⟨_, rfl⟩
        have Hsum := hide hsum
        have hs19 : s ≤ 19 := by omega
        have hS : (c : Int) + ((nth xs k : Nat) : Int) = (s : Int) := by omega
        have hr := tmod10 s
        have hq := tdiv10 s
        have hlt : s % 10 < 10 := Nat.mod_lt _ (by decide)
        have HX := hide hx0
        have HY := hide hy0
        clear hx0 hy0 hsum
        go_wp2_with (at_builtin; go_must (refine wpList_append_own _ rfl (.tmp 46) (.tmp 49) 30 rfl w.heap.size 3 i0 (.int .i64 0) 1 8 Tryz.underlying30 hi hz0 hz1 hz2 rfl (by decide) _ ds.length (dcells ds) rfl (by exact World.ownsRow.alloc Hown.out _) ⟨wr.heap.size, 0, none⟩ 1 1 [.int .i64 ((s % 10 : Nat) : Int)] rfl rfl (by exact World.news_of_block (World.alloc_heap_new _ _)) one_cell (by unfold maxLen; omega) (by omega) (by simp; omega) ?_; intro v' w1 hown' hgrow hnil))
        have hp := Own.pushed Hown.out HB.out (Nat.le_refl _) HB.out.size hown' hgrow
        go_roundw
        case rel => exact ⟨k + 1, s / 10, by go_num, by go_num, by omega, by omega, fun h => by omega, ds ++ [s % 10], hp.1, small_digit Hs.out s, by rw [List.length_append, Hlen.out]; rfl, add_step Hlen.out Hv.out Hsum.out, hp.2.1⟩
        case measure => simp [intOf]; omega
    · have dx : ¬ (k : Int) < (xs.length : Int) := by omega
      by_cases hky : k < ys.length
      · have dy : (k : Int) < (ys.length : Int) := by omega
        have zx : nth xs k = 0 := nth_ge (by omega)
        obtain ⟨b2, o2, eb⟩ := hy0.addr hky
        subst eb
        have c2 : wr.cell? ⟨b2, o2 + k, none⟩ = some (.int .i64 ((nth ys k : Nat) : Int)) := (hy0.below HB.out).cellAt rfl hky
        obtain ⟨s, hsum⟩ : ∃ s : Nat, s = c + nth xs k + nth ys k := ⟨_, rfl⟩
        have Hsum := hide hsum
        have hs19 : s ≤ 19 := by omega
        have hS : (c : Int) + ((nth ys k : Nat) : Int) = (s : Int) := by omega
        have hr := tmod10 s
        have hq := tdiv10 s
        have hlt : s % 10 < 10 := Nat.mod_lt _ (by decide)
        have HX := hide hx0
        have HY := hide hy0
        clear hx0 hy0 hsum
        go_wp2_with (at_builtin; go_must (refine wpList_append_own _ rfl (.tmp 46) (.tmp 49) 30 rfl w.heap.size 3 i0 (.int .i64 0) 1 8 Tryz.underlying30 hi hz0 hz1 hz2 rfl (by decide) _ ds.length (dcells ds) rfl (by exact World.ownsRow.alloc Hown.out _) ⟨wr.heap.size, 0, none⟩ 1 1 [.int .i64 ((s % 10 : Nat) : Int)] rfl rfl (by exact World.news_of_block (World.alloc_heap_new _ _)) one_cell (by unfold maxLen; omega) (by omega) (by simp; omega) ?_; intro v' w1 hown' hgrow hnil))
        have hp := Own.pushed Hown.out HB.out (Nat.le_refl _) HB.out.size hown' hgrow
        go_roundw
        case rel => exact ⟨k + 1, s / 10, by go_num, by go_num, by omega, by omega, fun h => by omega, ds ++ [s % 10], hp.1, small_digit Hs.out s, by rw [List.length_append, Hlen.out]; rfl, add_step Hlen.out Hv.out Hsum.out, hp.2.1⟩
        case measure => simp [intOf]; omega
      · have dy : ¬ (k : Int) < (ys.length : Int) := by omega
        by_cases hc0 : c = 0
        · subst hc0
          have hcg : ¬ ((0 : Int) > 0) := by omega
          have HX := hide hx0
          have HY := hide hy0
          have hvv := Hv.out
          rw [Nat.mul_zero, Nat.add_zero, List.take_of_length_le (by omega), List.take_of_length_le (by omega)] at hvv
          have Hvv := hide hvv
          clear hx0 hy0 hvv
          go_wp2_with (go_at_call 88; go_must (refine (trim_res wr _ ds (Hown.out.digs Hs.out) (by omega)).mono ?_; rintro e w1 ⟨rv, rfl, hr, hb1⟩))
          go_ret
          rw [Hvv.out] at hr
          exact ⟨_, rfl, hr.mono HB.out.size, HB.out.trans (hb1.mono HB.out.size)⟩
        · have hkc2 : k ≤ M := by have := Hkc.out; omega
          have zx : nth xs k = 0 := nth_ge (by omega)
          have zy : nth ys k = 0 := nth_ge (by omega)
          obtain ⟨s, hsum⟩ : ∃ s : Nat, s = c + nth xs k + nth ys k := ⟨_, rfl⟩
          have Hsum := hide hsum
          have hs19 : s ≤ 19 := by omega
          have hS : (c : Int) = (s : Int) := by omega
          obtain rfl : s = c := by omega
          clear hS
          have hcp : (s : Int) > 0 := by omega
          have hr := tmod10 s
          have hq := tdiv10 s
          have hlt : s % 10 < 10 := Nat.mod_lt _ (by decide)
          have HX := hide hx0
          have HY := hide hy0
          clear hx0 hy0 hsum
          go_wp2_with (at_builtin; go_must (refine wpList_append_own _ rfl (.tmp 46) (.tmp 49) 30 rfl w.heap.size 3 i0 (.int .i64 0) 1 8 Tryz.underlying30 hi hz0 hz1 hz2 rfl (by decide) _ ds.length (dcells ds) rfl (by exact World.ownsRow.alloc Hown.out _) ⟨wr.heap.size, 0, none⟩ 1 1 [.int .i64 ((s % 10 : Nat) : Int)] rfl rfl (by exact World.news_of_block (World.alloc_heap_new _ _)) one_cell (by unfold maxLen; omega) (by omega) (by simp; omega) ?_; intro v' w1 hown' hgrow hnil))
          have hp := Own.pushed Hown.out HB.out (Nat.le_refl _) HB.out.size hown' hgrow
          go_roundw
          case rel => exact ⟨k + 1, s / 10, by go_num, by go_num, by omega, by omega, fun h => by omega, ds ++ [s % 10], hp.1, small_digit Hs.out s, by rw [List.length_append, Hlen.out]; rfl, add_step Hlen.out Hv.out Hsum.out, hp.2.1⟩
          case measure => simp [intOf]; omega

end Go.Proofs.YtkdhcpfmlelfcaaGreatDoor

/- The reference's Times: a number times a small one. -/
namespace Go.Proofs.YtkdhcpfmlelfcaaGreatDoor
set_option linter.unusedVariables false
set_option linter.unusedSimpArgs false
open Go Go.RowKit Go.Shelf

theorem times_step {xs ds : List Nat} {c k n : Nat} (hl : ds.length = k) (h : val 10 ds + 10 ^ k * c = val 10 (xs.take k) * n) {s : Nat} (hs : s = c + nth xs k * n) :
    val 10 (ds ++ [s % 10]) + 10 ^ (k + 1) * (s / 10) = val 10 (xs.take (k + 1)) * n := by
  rw [val_take_nth, val_snoc, hl, Nat.pow_succ, Nat.add_mul, ← h, Nat.add_assoc, Nat.mul_assoc (10 ^ k) 10, ← Nat.mul_add, Nat.mod_add_div, hs, Nat.mul_add, Nat.add_assoc, Nat.mul_assoc]

theorem digit_le {x n : Nat} (hx : x < 10) (hn : n ≤ 10) : x * n ≤ 90 := Nat.le_trans (Nat.mul_le_mul (Nat.le_of_lt_succ hx) hn) (by decide)

/-- What the loop of Times keeps. -/
def TimesInv (w wr : World) (xs : List Nat) (n k c : Nat) (out : Value) : Prop :=
  ∃ ds, Own w.heap.size wr out ds ∧ Small 10 ds ∧ ds.length = k ∧ val 10 ds + 10 ^ k * c = val 10 (xs.take k) * n ∧ Below w.heap.size w wr

set_option maxRecDepth 100000 in
set_option maxHeartbeats 2000000 in
theorem rtimes_calls (w : World) (av : Value) (xs : List Nat) (n : Nat) (hx0 : Digs w av xs) (lx : xs.length ≤ 100000) (hn : n ≤ 10) :
    Calls Tryz.prog 118 #[av, .int .i64 (n : Int)] w fun e w' => ∃ rv, e = .returned rv ∧ RNew w.heap.size w' rv (val 10 xs * n) ∧ Below w.heap.size w w' := by
  obtain ⟨ao, ca, rfl⟩ := hx0.len
  obtain ⟨i0, hi, hz0, hz1, hz2⟩ := info_parts infoI64
  go_enter Tryz.func118, Tryz.ntmps118
  go_wp2
  go_loopw [5, 6, 7] (fun out cv iv wr => ∃ (k c : Nat), iv = .int .i64 (k : Int) ∧ cv = .int .i64 (c : Int) ∧ c ≤ 9 ∧ k ≤ xs.length + 1 ∧ (k = xs.length + 1 → c = 0) ∧ TimesInv w wr xs n k c out) (fun _ _ iv _ => xs.length + 2 - (intOf iv).toNat)
  case atStart => exact ⟨0, 0, rfl, rfl, by omega, by omega, fun _ => rfl, [], Own.nil _ _, Small.nil _, rfl, by simp [val_nil], Below.refl _ _⟩
  case round =>
    obtain ⟨k, c, rfl, rfl, hc1, hkM, hkc, hinv⟩ := hrel
    obtain ⟨ds, hown, hs, hlen, hv, hB⟩ := hinv
    have Hs := hide hs
    have Hv := hide hv
    have HB := hide hB
    have Hown := hide hown
    have Hlen := hide hlen
    have Hkc := hide hkc
    clear hs hv hB hown hlen hkc
    have hdl : ds.length ≤ 100001 := by have := Hlen.out; omega
    have hwr : w.heap.size ≤ wr.heap.size := HB.out.size
    have hx9 : nth xs k < 10 := hx0.small.nth (by decide) k
    have hxn := digit_le hx9 hn
    by_cases hkx : k < xs.length
    · have dx : (k : Int) < (xs.length : Int) := by omega
      obtain ⟨b1, o1, ea⟩ := hx0.addr hkx
      subst ea
      have c1 : wr.cell? ⟨b1, o1 + k, none⟩ = some (.int .i64 ((nth xs k : Nat) : Int)) := (hx0.below HB.out).cellAt rfl hkx
      obtain ⟨s, hsum⟩ : ∃ s : Nat, s = c + nth xs k * n := ⟨_, rfl⟩
      obtain ⟨pr, hpr⟩ : ∃ pr : Nat, pr = nth xs k * n := ⟨_, rfl⟩
      have hP : ((nth xs k : Nat) : Int) * (n : Int) = (pr : Int) := by rw [hpr]; simp
      have hpr9 : pr ≤ 90 := by rw [hpr]; exact hxn
      have hS : (c : Int) + (pr : Int) = (s : Int) := by rw [hsum, ← hpr]; simp
      have hs99 : s ≤ 99 := by omega
      have Hsum := hide hsum
      have hr := tmod10 s
      have hq := tdiv10 s
      have hlt : s % 10 < 10 := Nat.mod_lt _ (by decide)
      have HX := hide hx0
      clear hx0 hsum hpr hxn
      go_wp2_with (at_builtin; go_must (refine wpList_append_own _ rfl (.tmp 32) (.tmp 35) 30 rfl w.heap.size 3 i0 (.int .i64 0) 1 8 Tryz.underlying30 hi hz0 hz1 hz2 rfl (by decide) _ ds.length (dcells ds) rfl (by exact World.ownsRow.alloc Hown.out _) ⟨wr.heap.size, 0, none⟩ 1 1 [.int .i64 ((s % 10 : Nat) : Int)] rfl rfl (by exact World.news_of_block (World.alloc_heap_new _ _)) one_cell (by unfold maxLen; omega) (by omega) (by simp; omega) ?_; intro v' w1 hown' hgrow hnil))
      have hp := Own.pushed Hown.out HB.out (Nat.le_refl _) HB.out.size hown' hgrow
      go_roundw
      case rel => exact ⟨k + 1, s / 10, by go_num, by go_num, by omega, by omega, fun h => by omega, ds ++ [s % 10], hp.1, small_digit Hs.out s, by rw [List.length_append, Hlen.out]; rfl, times_step Hlen.out Hv.out Hsum.out, hp.2.1⟩
      case measure => simp [intOf]; omega
    · have dx : ¬ (k : Int) < (xs.length : Int) := by omega
      by_cases hc0 : c = 0
      · subst hc0
        have hcg : ¬ ((0 : Int) > 0) := by omega
        have HX := hide hx0
        have hvv := Hv.out
        rw [Nat.mul_zero, Nat.add_zero, List.take_of_length_le (by omega)] at hvv
        have Hvv := hide hvv
        clear hx0 hvv
        go_wp2_with (go_at_call 88; go_must (refine (trim_res wr _ ds (Hown.out.digs Hs.out) (by omega)).mono ?_; rintro e w1 ⟨rv, rfl, hr, hb1⟩))
        go_ret
        rw [Hvv.out] at hr
        exact ⟨_, rfl, hr.mono HB.out.size, HB.out.trans (hb1.mono HB.out.size)⟩
      · have hkc2 : k ≤ xs.length := by have := Hkc.out; omega
        have zx : nth xs k = 0 := nth_ge (by omega)
        obtain ⟨s, rfl⟩ : ∃ s : Nat, s = c := ⟨_, rfl⟩
        have hsum : s = s + nth xs k * n := by rw [zx]; simp
        have Hsum := hide hsum
        have hcp : (s : Int) > 0 := by omega
        have hr := tmod10 s
        have hq := tdiv10 s
        have hlt : s % 10 < 10 := Nat.mod_lt _ (by decide)
        have HX := hide hx0
        clear hx0 hsum hxn
        go_wp2_with (at_builtin; go_must (refine wpList_append_own _ rfl (.tmp 32) (.tmp 35) 30 rfl w.heap.size 3 i0 (.int .i64 0) 1 8 Tryz.underlying30 hi hz0 hz1 hz2 rfl (by decide) _ ds.length (dcells ds) rfl (by exact World.ownsRow.alloc Hown.out _) ⟨wr.heap.size, 0, none⟩ 1 1 [.int .i64 ((s % 10 : Nat) : Int)] rfl rfl (by exact World.news_of_block (World.alloc_heap_new _ _)) one_cell (by unfold maxLen; omega) (by omega) (by simp; omega) ?_; intro v' w1 hown' hgrow hnil))
        have hp := Own.pushed Hown.out HB.out (Nat.le_refl _) HB.out.size hown' hgrow
        go_roundw
        case rel => exact ⟨k + 1, s / 10, by go_num, by go_num, by omega, by omega, fun h => by omega, ds ++ [s % 10], hp.1, small_digit Hs.out s, by rw [List.length_append, Hlen.out]; rfl, times_step Hlen.out Hv.out Hsum.out, hp.2.1⟩
        case measure => simp [intOf]; omega

theorem add_rres {w : World} {av bv : Value} {m n : Nat} (hx : RArg w av m) (hy : RArg w bv n) :
    Calls Tryz.prog 94 #[av, bv] w fun e w' => ∃ rv, e = .returned rv ∧ RRes w' rv (m + n) ∧ Below w.heap.size w w' := by
  obtain ⟨xs, h1, h2, rfl, h3⟩ := hx
  obtain ⟨ys, k1, k2, rfl, k3⟩ := hy
  refine (radd_calls w av bv xs ys h1 k1 h3 k3).mono ?_
  rintro e w' ⟨rv, rfl, h4, h5⟩
  exact ⟨rv, rfl, h4.res, h5⟩

theorem times_rres {w : World} {av : Value} {m n : Nat} (hx : RArg w av m) (hn : n ≤ 10) :
    Calls Tryz.prog 118 #[av, .int .i64 (n : Int)] w fun e w' => ∃ rv, e = .returned rv ∧ RRes w' rv (m * n) ∧ Below w.heap.size w w' := by
  obtain ⟨xs, h1, h2, rfl, h3⟩ := hx
  refine (rtimes_calls w av xs n h1 h3 hn).mono ?_
  rintro e w' ⟨rv, rfl, h4, h5⟩
  exact ⟨rv, rfl, h4.res, h5⟩

end Go.Proofs.YtkdhcpfmlelfcaaGreatDoor
