/- The law LexTokens, walked. -/
import Derived.Test.YtehflaenehehhaaLRTokens
namespace Go.Proofs.Ytehflaenehehhaa
set_option linter.unusedVariables false
set_option linter.unusedSimpArgs false
set_option maxRecDepth 100000
open Go Go.RowKit Go.Shelf Go.Lib

theorem TokR2.below {W W' : World} {T : List Nat} {N : Nat} {v : Value} {a e : Int} (h : TokR2 W T N v a e) (hb : Below W.heap.size W W') : TokR2 W' T N v a e := by
  rcases h with h | ⟨h1, h2, h3, h4⟩
  · exact .inl h
  · exact .inr ⟨h1, h2, h3, h4.below hb⟩

theorem tok_same {W W' : World} {T : List Nat} {N : Nat} {v v' : Value} {a e a' e' : Int} (h : TokR2 W T N v a e) (h' : TokR2 W' T N v' a' e') :
    a = a' ∧ e = e' ∧ ((v = .slice none 0 0 ∧ v' = .slice none 0 0) ∨ ∃ L, ToksIn W v T L ∧ ToksIn W' v' T L ∧ L.length ≤ N + 1) := by
  rcases h with ⟨k, hk, hf, hb, hv, ha, he⟩ | ⟨hf, ha, he, hI⟩
  · rcases h' with ⟨k', hk', hf', hb', hv', ha', he'⟩ | ⟨hf', _⟩
    · have : k = k' := by
        rcases Nat.lt_trichotomy k k' with g | g | g
        · exact absurd (hf' k g) hb
        · exact g
        · exact absurd (hf k' g) hb'
      subst this
      exact ⟨by rw [ha, ha'], by rw [he, he'], .inl ⟨hv, hv'⟩⟩
    · exact absurd (hf' k hk) hb
  · rcases h' with ⟨k', hk', hf', hb', hv', ha', he'⟩ | ⟨hf', ha', he', hI'⟩
    · exact absurd (hf k' hk') hb'
    · refine ⟨by rw [ha, ha'], by rw [he, he'], .inr ⟨_, hI, hI', ?_⟩⟩
      have := toksL_le T N
      simp
      omega

set_option maxHeartbeats 8000000 in
theorem lextokens_calls (w : World) (ao : Option Addr) (cap : Nat) (T : List Nat) (h : Byts w (.slice ao T.length cap) T) (hcap : T.length ≤ cap) (hao : ao = none → cap = 0) :
    Calls Try.prog 3 #[.slice ao T.length cap] w fun e w' => e = .returned (.bool true) ∧ Below w.heap.size w w' := by
  have H := hide h
  clear h hao
  by_cases hl : 2000 < T.length
  · have dl : (2000 : Int) < (T.length : Int) := by omega
    go_enter Try.func3, Try.ntmps3
    go_wp2_with fail
    refine (parted_calls w).mono ?_
    rintro e W1 ⟨rfl, hb1⟩
    go_wp2
    go_ret
    exact ⟨rfl, hb1⟩
  have dl : ¬ (2000 : Int) < (T.length : Int) := by omega
  obtain ⟨N, n1, n2⟩ := pieces_count T
  have hN : N ≤ 2000 := by have := posP_ge n1 N (Nat.le_refl _); omega
  have N1 := hide n1
  have N2 := hide n2
  clear n1 n2
  go_enter Try.func3, Try.ntmps3
  go_wp2_with fail
  refine (tokens_calls w ao cap T N H.out N1.out N2.out (by omega) hcap).mono ?_
  rintro e W1 ⟨v, a, er, rfl, hT, hb1⟩
  have HT := hide hT.two
  have K1 := hide hb1
  clear hT hb1
  go_wp2_with fail
  refine (rtokens_calls W1 ao cap T N (H.out.below K1.out) N1.out N2.out (by omega) hcap).mono ?_
  rintro e W2 ⟨v', a', er', rfl, hT', hb2⟩
  have HT2 := hide (HT.out.below hb2)
  have HT' := hide hT'
  have K2 := hide (bafter K1.out hb2 (Nat.le_refl _))
  clear hT' hb2 HT K1
  obtain ⟨ea, ee, hcase⟩ := tok_same HT2.out HT'.out
  subst ea
  subst ee
  have HC := hide hcase
  clear hcase HT2 HT'
  have hx1 : (a != a) = false := by simp
  have hx2 : (er != er) = false := by simp
  go_wp2_with fail
  refine (parted_calls W2).mono ?_
  rintro e W3 ⟨rfl, hb3⟩
  have K3 := hide (bafter K2.out hb3 (Nat.le_refl _))
  rcases HC.out with ⟨rfl, rfl⟩ | ⟨L, hI, hI', hL⟩
  · clear HC hb3
    go_wp2
    go_loopw [9] (fun i wr => i = .int .i64 0 ∧ wr = W3) (fun i _ => 0)
    case atStart => exact ⟨rfl, rfl⟩
    case round =>
      obtain ⟨rfl, hw⟩ := hrel
      rw [hw]
      clear hw
      go_wp2
      go_ret
      exact ⟨rfl, K3.out⟩
  · have HI := hide (hI.below hb3)
    have HI' := hide (hI'.below hb3)
    clear HC hb3 hI hI'
    obtain ⟨ao1, c1, rfl, hc1, hcs1⟩ := HI.out
    obtain ⟨ao2, c2, rfl, hc2, hcs2⟩ := HI'.out
    have HS1 := hide hcs1
    have HS2 := hide hcs2
    clear hcs1 hcs2 HI HI'
    generalize hLn : L.length = Ln at *
    have HLN := hide hLn
    clear hLn
    have hx3 : (((Ln : Nat) : Int) != ((Ln : Nat) : Int)) = false := by simp
    go_wp2
    go_loopw [9] (fun i wr => ∃ j : Nat, j ≤ Ln ∧ i = .int .i64 (j : Int) ∧ Below W3.heap.size W3 wr) (fun i _ => Ln - (RowKit.intOf i).toNat)
    case atStart => exact ⟨0, Nat.zero_le _, rfl, Below.refl _ _⟩
    case round =>
      obtain ⟨j, hj, rfl, hB⟩ := hrel
      have HB := hide hB
      clear hB
      by_cases hlt : j < Ln
      · obtain ⟨t, ht⟩ : ∃ t, L[j]? = some t := ⟨_, List.getElem?_eq_getElem (by rw [HLN.out]; exact hlt)⟩
        obtain ⟨b1, rfl, x0, x1, x2, x3⟩ := HS1.out j t ht
        obtain ⟨b2, rfl, y0, y1, y2, y3⟩ := HS2.out j t ht
        clear HS1 HS2 ht
        replace x0 : wr.cell? ⟨b1, j * 4, none⟩ = _ := (HB.out.cell (p := ⟨b1, j * 4, none⟩) (block_lt x0)).trans x0
        replace x1 : wr.cell? ⟨b1, j * 4 + 1, none⟩ = _ := (HB.out.cell (p := ⟨b1, j * 4 + 1, none⟩) (block_lt x1)).trans x1
        replace x2 : wr.cell? ⟨b1, j * 4 + 2, none⟩ = _ := (HB.out.cell (p := ⟨b1, j * 4 + 2, none⟩) (block_lt x2)).trans x2
        replace x3 : wr.cell? ⟨b1, j * 4 + 3, none⟩ = _ := (HB.out.cell (p := ⟨b1, j * 4 + 3, none⟩) (block_lt x3)).trans x3
        replace y0 : wr.cell? ⟨b2, j * 4, none⟩ = _ := (HB.out.cell (p := ⟨b2, j * 4, none⟩) (block_lt y0)).trans y0
        replace y1 : wr.cell? ⟨b2, j * 4 + 1, none⟩ = _ := (HB.out.cell (p := ⟨b2, j * 4 + 1, none⟩) (block_lt y1)).trans y1
        replace y2 : wr.cell? ⟨b2, j * 4 + 2, none⟩ = _ := (HB.out.cell (p := ⟨b2, j * 4 + 2, none⟩) (block_lt y2)).trans y2
        replace y3 : wr.cell? ⟨b2, j * 4 + 3, none⟩ = _ := (HB.out.cell (p := ⟨b2, j * 4 + 3, none⟩) (block_lt y3)).trans y3
        have dj : (j : Int) < (Ln : Int) := by omega
        have dj0 : (0 : Int) ≤ (j : Int) := by omega
        generalize tokText T t = su at *
        generalize t.1 = kd at *
        generalize ((t.2.1 : Nat) : Int) = pf at *
        generalize ((t.2.2 : Nat) : Int) = pt at *
        go_wp2
        go_quiet (fail)
        go_wp2
        go_roundw
        case rel => exact ⟨j + 1, by omega, by go_num, bdrewN HB.out _⟩
        case measure => simp [RowKit.intOf]; omega
      · obtain rfl : j = Ln := by omega
        have dj : ¬ (j : Int) < (j : Int) := by omega
        go_wp2
        go_ret
        exact ⟨rfl, K3.out.trans (HB.out.mono K3.out.size)⟩

end Go.Proofs.Ytehflaenehehhaa
