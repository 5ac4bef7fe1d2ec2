/- The reference's letters, in memory that is the call's own. -/
import Derived.Test.YtchpnbcagbjnnaaDoorULets
namespace Go.Proofs.YtchpnbcagbjnnaaDoor
set_option linter.unusedVariables false
set_option linter.unusedSimpArgs false
open Go Go.RowKit Go.Shelf Go.Lib

set_option maxRecDepth 100000 in
set_option maxHeartbeats 4000000 in
theorem rletters_own (w : World) (ao : Option Addr) (cap : Nat) (T : List Nat) (N : Nat) (h : Byts w (.slice ao T.length cap) T) (hcap : T.length ≤ cap) (h1 : ∀ k, k < N → posL T k < T.length) (h2 : posL T N = T.length) (hlen : T.length ≤ 1000000000) :
    Calls Tryd.prog 14 #[.slice ao T.length cap] w fun e w' => ∃ rv, e = .returned rv ∧ OwnL w.heap.size w' rv T N ∧ Below w.heap.size w w' := by
  obtain ⟨i0, hi, hz0, hz1, hz2⟩ := info_parts infoLet
  have H := hide h
  have hsm := h.small
  have hN : N ≤ T.length := by have := posL_ge hsm h1 N (Nat.le_refl _); omega
  clear h
  go_enter Tryd.func14, Tryd.ntmps14
  go_wp2
  go_loopw [3, 4] (fun l i wr => ∃ k : Nat, k ≤ N ∧ i = .int .i64 ((posL T k : Nat) : Int) ∧ OwnL w.heap.size wr l T k ∧ Below w.heap.size w wr) (fun _ i _ => T.length - (RowKit.intOf i).toNat)
  case atStart => exact ⟨0, Nat.zero_le _, rfl, World.ownsRow_nil _ _ _ _, Below.refl _ _⟩
  case round =>
    obtain ⟨k, hk, rfl, hown, hB⟩ := hrel
    by_cases hlt : k < N
    · have hp := h1 k hlt
      have hps : posL T (k + 1) = posL T k + sizeAt T (posL T k) := rfl
      obtain ⟨s1, s2, s3⟩ := size_bounds hsm hp
      obtain ⟨b, off, rfl, _⟩ : ∃ b off, ao = some ⟨b, off, none⟩ ∧ True := by
        obtain ⟨_, _, e, _, hc⟩ := H.out
        cases e
        obtain ⟨b, off, e, _⟩ := hc 0 (by omega)
        exact ⟨b, off, e, trivial⟩
      have HO := hide (rone_calls wr b off cap T (posL T k) (H.out.below hB) hcap hp hlen)
      have Hown := hide hown
      have HB := hide hB
      have Hps := hide hps
      have H1 := hide h1
      have hkN : k ≤ 1000000000 := by omega
      have H2 := hide h2
      have Hsm := hide hsm
      generalize hP : posL T k = P at *
      generalize hS : sizeAt T P = S at *
      generalize hR : runeAt T P = R at *
      have HPP := hide hP
      have HSS := hide hS
      have HRR := hide hR
      clear hown hB hps h1 h2 hsm hP hS
      have dlt : (P : Int) < (T.length : Int) := by omega
      go_wp2_with fail
      refine HO.out.mono ?_
      rintro e W2 ⟨r, s, rfl, hcase, hb2⟩
      have HB2 := hide (bafter HB.out hb2 (Nat.le_refl _))
      have Hown2 := hide (Hown.out.keep hb2)
      have hwr : w.heap.size ≤ W2.heap.size := HB2.out.size
      clear hb2 HO Hown HB
      rcases hcase with ⟨hr, rfl, rfl⟩ | ⟨hr, rfl, rfl⟩
      · have hS1 : S = 1 := by rw [← HSS.out]; exact rune_none (by rw [HRR.out]; exact hr)
        have HSS1 := hide hS1
        have HR := hide hr
        clear hr hR hS1
        go_wp2_with (at_builtin; go_must (refine wpList_append_own _ rfl (.tmp 19) (.tmp 22) 32 rfl w.heap.size 38 i0 (.agg #[.int .i64 0, .int .i64 0, .int .i64 0]) 3 24 Tryd.underlying32 hi hz0 hz1 hz2 rfl (by decide) _ k (ltcells T k) rfl (by exact World.ownsRow.alloc Hown2.out _) ⟨W2.heap.size, 0, none⟩ 1 1 [.int .i64 (P : Int), .int .i64 (-1), .int .i64 1] rfl rfl (by exact World.news_of_block (World.alloc_heap_new _ _)) three_cells (by unfold maxLen; omega) (by omega) (by simp; omega) ?_; intro v' w1 hown' hgrow hnil))
        have hp2 := OwnL.pushed Hown2.out HB2.out (Nat.le_refl _) HB2.out.size hown' hgrow (by rw [HPP.out]) (by rw [HPP.out, HRR.out, HR.out]) (by rw [HPP.out, HSS.out, HSS1.out]; rfl)
        go_roundw
        case rel => exact ⟨k + 1, by omega, by rw [Hps.out, HSS1.out]; go_num, hp2.1, hp2.2⟩
        case measure => simp [RowKit.intOf]; omega
      · have HR := hide hr
        have hS0 : ((S : Int) == 0) = false := beq_eq_false_iff_ne.2 (by omega)
        obtain ⟨Z, hZ⟩ : ∃ Z, P + S = Z := ⟨_, rfl⟩
        have hZ' : (P : Int) + (S : Int) = (Z : Int) := by omega
        have HZ := hide hZ
        clear hr hR hZ
        go_wp2_with (at_builtin; go_must (refine wpList_append_own _ rfl (.tmp 26) (.tmp 31) 32 rfl w.heap.size 38 i0 (.agg #[.int .i64 0, .int .i64 0, .int .i64 0]) 3 24 Tryd.underlying32 hi hz0 hz1 hz2 rfl (by decide) _ k (ltcells T k) rfl (by exact World.ownsRow.alloc Hown2.out _) ⟨W2.heap.size, 0, none⟩ 1 1 [.int .i64 (P : Int), .int .i64 r, .int .i64 (S : Int)] rfl rfl (by exact World.news_of_block (World.alloc_heap_new _ _)) three_cells (by unfold maxLen; omega) (by omega) (by simp; omega) ?_; intro v' w1 hown' hgrow hnil))
        have hp2 := OwnL.pushed Hown2.out HB2.out (Nat.le_refl _) HB2.out.size hown' hgrow (by rw [HPP.out]) (by rw [HPP.out, HRR.out]) (by rw [HPP.out, HSS.out])
        go_roundw
        case rel => exact ⟨k + 1, by omega, by rw [Hps.out, HZ.out], hp2.1, hp2.2⟩
        case measure => (have := HZ.out; simp [RowKit.intOf]; omega)
    · obtain rfl : k = N := by omega
      have d1 : ¬ ((posL T k : Nat) : Int) < (T.length : Int) := by omega
      have Hown := hide hown
      have HB := hide hB
      clear hown hB h1
      go_wp2
      go_ret
      exact ⟨_, rfl, Hown.out, HB.out⟩

theorem OwnL.other {n₀ : Nat} {W : World} {v : Value} {T : List Nat} {k B o : Nat} (h : OwnL n₀ W v T k) (hB : B < n₀) (x : Value) : OwnL n₀ (W.setCell ⟨B, o, none⟩ x) v T k := by
  refine ⟨h.1, ?_⟩
  rcases h.2 with hn | ⟨g2, cap, cur, hv, h1, h2, h3⟩
  · exact .inl hn
  · exact .inr ⟨g2, cap, cur, hv, h1, (heap_setCell_other W ⟨B, o, none⟩ g2 x (by show g2 ≠ B; omega)).trans h2, h3⟩

end Go.Proofs.YtchpnbcagbjnnaaDoor
