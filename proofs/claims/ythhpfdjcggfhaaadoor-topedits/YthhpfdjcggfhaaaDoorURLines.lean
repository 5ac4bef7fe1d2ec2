/- Where lines begin, as the reference tells it; the comparison of ints. -/
import Derived.Test.YthhpfdjcggfhaaaDoorULines
namespace Go.Proofs.YthhpfdjcggfhaaaDoor
set_option linter.unusedVariables false
set_option linter.unusedSimpArgs false
open Go Go.RowKit Go.Shelf Go.Lib

set_option maxRecDepth 100000 in
set_option maxHeartbeats 4000000 in
theorem rlines_calls (w : World) (ao : Option Addr) (cap : Nat) (T : List Nat) (h : Byts w (.slice ao T.length cap) T) (hlen : T.length ≤ 1000000000) :
    Calls Tryd.prog 18 #[.slice ao T.length cap] w fun e w' => ∃ rv, e = .returned rv ∧ OwnI w.heap.size w' rv (linesL T) ∧ Below w.heap.size w w' := by
  obtain ⟨i0, hi, hz0, hz1, hz2⟩ := info_parts infoI64
  have H := hide h
  clear h
  go_enter Tryd.func18, Tryd.ntmps18
  go_wp2
  go_loopw [3, 4] (fun out i wr => ∃ k K1 : Nat, k ≤ T.length ∧ i = .int .i64 (K1 : Int) ∧ K1 = k + 1 ∧ OwnI w.heap.size wr out (linesTo T k) ∧ Below w.heap.size w wr) (fun _ i _ => T.length + 1 - (RowKit.intOf i).toNat)
  case atStart => exact ⟨0, 1, Nat.zero_le _, rfl, rfl, own_lit w, bel _ _⟩
  case round =>
    obtain ⟨k, K1, hk, rfl, hK1, hown, hB⟩ := hrel
    have Hown := hide hown
    have HB := hide hB
    have hwr : w.heap.size ≤ wr.heap.size := hB.size
    have hll := linesTo_length T k
    by_cases hlt : k < T.length
    · obtain ⟨ao', cap', e, hb, hc⟩ := H.out.below hB
      cases e
      obtain ⟨b, off, rfl, c0⟩ := hc k hlt
      have l0 := nth_lt hb k
      have l1 := nth_lt hb (k + 1)
      have d1 : (K1 : Int) ≤ (T.length : Int) := by omega
      have d0 : (K1 : Int) - 1 = (k : Int) := by omega
      have d2 : (0 : Int) ≤ (k : Int) := by omega
      have d3 : (k : Int) < (T.length : Int) := by omega
      have HC1 := hide (fun h1 : k + 1 < T.length => hc (k + 1) h1)
      obtain ⟨K2, hK2⟩ : ∃ K2, K2 = K1 + 1 := ⟨_, rfl⟩
      have hK2' : (K1 : Int) + 1 = (K2 : Int) := by omega
      have hK1' := hide (show (K1 : Int) = ((k + 1 : Nat) : Int) by omega)
      have HK2 := hide hK2
      have HK1 := hide hK1
      have hKb : K1 ≤ 1000000000 := by omega
      clear hc hown hB hb hK2 hK1
      have HBK : Hid (brk T k = (decide (nth T k = 10) || (decide (nth T k = 13) && !(decide (k + 1 < T.length) && decide (nth T (k + 1) = 10))))) := rfl
      generalize hx : nth T k = x at *
      generalize hy : nth T (k + 1) = y at *
      clear hx hy
      by_cases x10 : x = 10
      · have hbr : brk T k = true := by rw [HBK.out]; simp [x10]
        have HL := hide (lines_yes hbr)
        subst x10
        have e13 : (((10 : Nat) : Int) == 13) = false := by decide
        have e10 : (((10 : Nat) : Int) == 10) = true := by decide
        clear hbr HBK HC1
        go_wp2_with (at_builtin; go_must (refine wpList_append_own _ rfl (.tmp 41) (.tmp 43) 38 rfl w.heap.size 3 i0 (.int .i64 0) 1 8 Tryd.underlying38 hi hz0 hz1 hz2 rfl (by decide) _ (linesTo T k).length (icells (linesTo T k)) rfl (by exact World.ownsRow.alloc Hown.out _) ⟨wr.heap.size, 0, none⟩ 1 1 [.int .i64 (K1 : Int)] rfl rfl (by exact World.news_of_block (World.alloc_heap_new _ _)) one_cell (by unfold maxLen; omega) (by omega) (by simp; omega) ?_; intro v' w1 hown' hgrow hnil))
        have hp := OwnI.pushed Hown.out HB.out (Nat.le_refl _) HB.out.size hown' hgrow
        go_roundw
        case rel => exact ⟨k + 1, K2, by omega, rfl, by rw [HK2.out, HK1.out], by rw [HL.out]; rw [hK1'.out] at hp; exact hp.1, hp.2⟩
        case measure => (have h1 := HK1.out; have h2 := HK2.out; simp [RowKit.intOf]; omega)
      · have e10 : ((x : Int) == 10) = false := beq_eq_false_iff_ne.2 (by omega)
        by_cases x13 : x = 13
        · subst x13
          have e13 : (((13 : Nat) : Int) == 13) = true := by decide
          have e10' : (((13 : Nat) : Int) == 10) = false := by decide
          by_cases hn : k + 1 < T.length
          · obtain ⟨b', off', eb, c1⟩ := HC1.out hn
            cases eb
            rw [← HK1.out] at c1
            have n0 : ((K1 : Int) == (T.length : Int)) = false := beq_eq_false_iff_ne.2 (by have := HK1.out; omega)
            have n1 : (K1 : Int) < (T.length : Int) := by have := HK1.out; omega
            by_cases y10 : y = 10
            · have hbr : brk T k = false := by rw [HBK.out]; simp [hn, y10]
              have HL := hide (lines_no hbr)
              subst y10
              have f10 : (((10 : Nat) : Int) != 10) = false := by decide
              clear hbr HBK HC1
              go_wp2
              go_roundw
              case rel => exact ⟨k + 1, K2, by omega, rfl, by rw [HK2.out, HK1.out], by rw [HL.out]; exact Hown.out, HB.out⟩
              case measure => (have h1 := HK1.out; have h2 := HK2.out; simp [RowKit.intOf]; omega)
            · have hbr : brk T k = true := by rw [HBK.out]; simp [hn, y10]
              have HL := hide (lines_yes hbr)
              have f10 : ((y : Int) != 10) = true := by simp; omega
              clear hbr HBK HC1
              go_wp2_with (at_builtin; go_must (refine wpList_append_own _ rfl (.tmp 41) (.tmp 43) 38 rfl w.heap.size 3 i0 (.int .i64 0) 1 8 Tryd.underlying38 hi hz0 hz1 hz2 rfl (by decide) _ (linesTo T k).length (icells (linesTo T k)) rfl (by exact World.ownsRow.alloc Hown.out _) ⟨wr.heap.size, 0, none⟩ 1 1 [.int .i64 (K1 : Int)] rfl rfl (by exact World.news_of_block (World.alloc_heap_new _ _)) one_cell (by unfold maxLen; omega) (by omega) (by simp; omega) ?_; intro v' w1 hown' hgrow hnil))
              have hp := OwnI.pushed Hown.out HB.out (Nat.le_refl _) HB.out.size hown' hgrow
              go_roundw
              case rel => exact ⟨k + 1, K2, by omega, rfl, by rw [HK2.out, HK1.out], by rw [HL.out]; rw [hK1'.out] at hp; exact hp.1, hp.2⟩
              case measure => (have h1 := HK1.out; have h2 := HK2.out; simp [RowKit.intOf]; omega)
          · have hbr : brk T k = true := by rw [HBK.out]; simp [hn]
            have HL := hide (lines_yes hbr)
            have n0 : ((K1 : Int) == (T.length : Int)) = true := beq_iff_eq.2 (by have := HK1.out; omega)
            clear hbr HBK HC1
            go_wp2_with (at_builtin; go_must (refine wpList_append_own _ rfl (.tmp 41) (.tmp 43) 38 rfl w.heap.size 3 i0 (.int .i64 0) 1 8 Tryd.underlying38 hi hz0 hz1 hz2 rfl (by decide) _ (linesTo T k).length (icells (linesTo T k)) rfl (by exact World.ownsRow.alloc Hown.out _) ⟨wr.heap.size, 0, none⟩ 1 1 [.int .i64 (K1 : Int)] rfl rfl (by exact World.news_of_block (World.alloc_heap_new _ _)) one_cell (by unfold maxLen; omega) (by omega) (by simp; omega) ?_; intro v' w1 hown' hgrow hnil))
            have hp := OwnI.pushed Hown.out HB.out (Nat.le_refl _) HB.out.size hown' hgrow
            go_roundw
            case rel => exact ⟨k + 1, K2, by omega, rfl, by rw [HK2.out, HK1.out], by rw [HL.out]; rw [hK1'.out] at hp; exact hp.1, hp.2⟩
            case measure => (have h1 := HK1.out; have h2 := HK2.out; simp [RowKit.intOf]; omega)
        · have e13 : ((x : Int) == 13) = false := beq_eq_false_iff_ne.2 (by omega)
          have hbr : brk T k = false := by rw [HBK.out]; simp [x10, x13]
          have HL := hide (lines_no hbr)
          clear hbr HBK HC1 x10 x13
          go_wp2
          go_roundw
          case rel => exact ⟨k + 1, K2, by omega, rfl, by rw [HK2.out, HK1.out], by rw [HL.out]; exact Hown.out, HB.out⟩
          case measure => (have h1 := HK1.out; have h2 := HK2.out; simp [RowKit.intOf]; omega)
    · obtain rfl : k = T.length := by omega
      have d1 : ¬ (K1 : Int) ≤ (T.length : Int) := by omega
      clear hown hB
      go_wp2
      go_ret
      exact ⟨_, rfl, Hown.out, HB.out⟩


end Go.Proofs.YthhpfdjcggfhaaaDoor
