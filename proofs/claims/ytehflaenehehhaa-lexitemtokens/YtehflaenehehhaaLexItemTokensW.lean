/- The law LexItemTokens, walked. -/
import Derived.Test.YtehflaenehehhaaLCuts
import Derived.Test.YtehflaenehehhaaLSpans2
import Derived.Test.YtehflaenehehhaaLRSize
namespace Go.Proofs.Ytehflaenehehhaa
set_option linter.unusedVariables false
set_option linter.unusedSimpArgs false
set_option maxRecDepth 100000
open Go Go.RowKit Go.Shelf Go.Lib

theorem cell_drewN' (W : World) (n : Nat) (p : Addr) : (W.drewN n).cell? p = W.cell? p := by
  induction n with
  | zero => rfl
  | succ n ih => exact ih

theorem tokR_in {T : List Nat} {j : Nat} : ∀ d k, k + d = j → ∀ t ∈ tokR T k d, posP T k ≤ t.2.1 ∧ t.2.1 ≤ t.2.2 ∧ t.2.2 ≤ posP T j := by
  intro d
  induction d with
  | zero => intro k _ t ht; cases ht
  | succ d ih =>
    intro k e t ht
    have ep : posP T (k + 1) = posP T k + sizeAt T (posP T k) := rfl
    have hm := pos_mono (T := T) d (k + 1)
    rw [show k + 1 + d = j by omega] at hm
    rcases List.mem_append.1 ht with g | g
    · split at g
      · simp at g
        rw [g]
        show posP T k ≤ posP T k ∧ posP T k ≤ posP T (k + 1) ∧ posP T (k + 1) ≤ posP T j
        omega
      · cases g
    · have := ih (k + 1) (by omega) t g
      omega
theorem text_part {T : List Nat} {f e : Nat} {t : Tok} (h1 : f ≤ t.2.1) (h2 : t.2.1 ≤ t.2.2) (h3 : t.2.2 ≤ e) : tokText (partT T f e) (backT f t) = tokText T t := by
  unfold tokText backT
  dsimp only
  rw [partT_drop h1 (by omega), List.take_take, show min (t.2.2 - f - (t.2.1 - f)) (e - t.2.1) = t.2.2 - t.2.1 by omega]

set_option maxHeartbeats 16000000 in
theorem lexitemtokens_calls (w : World) (ao : Option Addr) (cap : Nat) (T : List Nat) (h : Byts w (.slice ao T.length cap) T) (hcap : T.length ≤ cap) (hao : ao = none → cap = 0) :
    Calls Try.prog 7 #[.slice ao T.length cap] w fun e w' => e = .returned (.bool true) ∧ Below w.heap.size w w' := by
  have H := hide h
  clear h hao
  by_cases hl : 1500 < T.length
  · have dl : decide ((1500 : Int) < (T.length : Int)) = true := decide_eq_true (by omega)
    have dl' : (1500 : Int) < (T.length : Int) := by omega
    go_enter Try.func7, Try.ntmps7
    go_wp2_with fail
    refine (parted_calls w).mono ?_
    rintro e W1 ⟨rfl, hb1⟩
    have K1 := hide hb1
    clear hb1
    go_wp2_with fail
    refine (parted_calls W1).mono ?_
    rintro e W2 ⟨rfl, hb2⟩
    go_wp2
    go_ret
    exact ⟨rfl, bafter K1.out hb2 (Nat.le_refl _)⟩
  have dl : ¬ (1500 : Int) < (T.length : Int) := by omega
  obtain ⟨N, n1, n2⟩ := pieces_count T
  have hN : N ≤ 1500 := by have := posP_ge n1 N (Nat.le_refl _); omega
  have N1 := hide n1
  have N2 := hide n2
  clear n1 n2
  go_enter Try.func7, Try.ntmps7
  go_wp2_with fail
  refine (parted_calls w).mono ?_
  rintro e W1 ⟨rfl, hb1⟩
  have K1 := hide hb1
  clear hb1
  go_wp2_with fail
  refine (tokens_calls W1 ao cap T N (H.out.below K1.out) N1.out N2.out (by omega) hcap).mono ?_
  rintro e W2 ⟨v, a, er, rfl, hT, hb2⟩
  have K2 := hide (bafter K1.out hb2 (Nat.le_refl _))
  clear hb2 K1
  rcases hT.two with ⟨k, hk, hf, hb, rfl, rfl, rfl⟩ | ⟨hf, rfl, rfl, hI⟩
  · have hx : (faultAt T k != 0) = true := by simp [hb]
    clear hT hf hb
    generalize faultAt T k = fe at *
    go_wp2
    go_ret
    exact ⟨rfl, K2.out⟩
  clear hT
  have HF := hide hf
  have HI := hide hI
  clear hf hI
  go_wp2_with fail
  refine (spans_calls W2 ao cap T N (H.out.below K2.out) N1.out N2.out (by omega)).mono ?_
  rintro e W3 ⟨rv, rfl, hsp, hb3⟩
  have K3 := hide (bafter K2.out hb3 (Nat.le_refl _))
  obtain ⟨ao1, c1, rfl, hc1, hcs1⟩ := HI.out.below hb3
  obtain ⟨ao2, c2, rfl, hc2, hcs2⟩ := hsp
  have HS1 := hide hcs1
  have HS2 := hide hcs2
  have HBY := hide (H.out.below K3.out)
  clear hb3 hcs1 hcs2 HI K2
  have hLL : (toksL T N ++ [((0 : Int), T.length, T.length)]).length = (toksL T N).length + 1 := by simp
  have htl := toksL_le T N
  generalize hLn0 : (toksL T N ++ [((0 : Int), T.length, T.length)]).length = Ln at *
  generalize hM0 : (itemsL T N).length = M at *
  have HLN : Hid (Ln = (toksL T N).length + 1) := hLL
  have hLn : Ln ≤ 1501 := by omega
  have hL1 : 1 ≤ Ln := by omega
  have hM : M ≤ 1501 := by have := itemsL_le T N; omega
  have HM0 : Hid ((ixAll T N).length = M) := by show _ = _; rw [← hM0, items_are]; simp
  clear hLn0 hM0 hLL htl
  go_wp2
  go_loopw [6, 8] (fun nv iv wr => ∃ m a nn : Nat, m ≤ M ∧ iv = .int .i64 (m : Int) ∧ nv = .int .i64 (nn : Int) ∧ nn = (toksL T a).length ∧ ChainI a ((ixAll T N).drop m) (ixEnd T N) ∧ Below W3.heap.size W3 wr) (fun _ iv _ => M - (RowKit.intOf iv).toNat)
  case atStart => exact ⟨0, 0, 0, Nat.zero_le _, rfl, rfl, rfl, all_chain T N, Below.refl _ _⟩
  case round =>
    obtain ⟨m, a, nn, hm, rfl, rfl, hnn, hch, hB⟩ := hrel
    by_cases hlt : m < M
    · obtain ⟨p, hp⟩ : ∃ p, (ixAll T N)[m]? = some p := ⟨_, List.getElem?_eq_getElem (by rw [HM0.out]; exact hlt)⟩
      obtain ⟨hpa, hpl, hch2⟩ := chainI_at hch hp
      have hpe := chainI_le (N := N) hch2
      have hpN : p.2 ≤ N := Nat.le_trans hpe (ixEnd_le T N)
      obtain ⟨i, j⟩ := p
      dsimp only at hpa hpl hch2 hpe hpN
      subst hpa
      obtain ⟨bs, rfl, q0, q1⟩ := HS2.out m (posP T i, posP T j) (by rw [items_are, List.getElem?_map, hp]; rfl)
      have hlo : posP T i < posP T j := by
        have r1 := (size_bounds (N1.out i (by omega))).1
        have r2 := pos_mono (T := T) (j - (i + 1)) (i + 1)
        rw [show i + 1 + (j - (i + 1)) = j by omega] at r2
        have r3 : posP T (i + 1) = posP T i + sizeAt T (posP T i) := rfl
        omega
      have hET0 : posP T j ≤ T.length := by
        have r2 := pos_mono (T := T) (N - j) j
        rw [show j + (N - j) = N by omega, N2.out] at r2
        exact r2
      have hpart := part_toks H.out.small N1.out N2.out HF.out (show i ≤ j by omega) hpN (j - i) i (Nat.le_refl _) (by omega)
      rw [Nat.sub_self] at hpart
      have htoks := toksL_tokR T (j - i) i
      rw [show i + (j - i) = j by omega] at htoks
      have htoksN := toksL_tokR T (N - j) j
      rw [show j + (N - j) = N by omega] at htoksN
      have htin := tokR_in (T := T) (j := j) (j - i) i (by omega)
      obtain ⟨b, off, rfl⟩ : ∃ b off, ao = some ⟨b, off, none⟩ := by
        obtain ⟨_, _, e, _, hcs⟩ := H.out
        cases e
        obtain ⟨b, off, e, _⟩ := hcs 0 (by omega)
        exact ⟨b, off, e⟩
      replace q0 : wr.cell? ⟨bs, m * 2, none⟩ = some (.int .i64 ((posP T i : Nat) : Int)) := (hB.cell (p := ⟨bs, m * 2, none⟩) (block_lt q0)).trans q0
      replace q1 : wr.cell? ⟨bs, m * 2 + 1, none⟩ = some (.int .i64 ((posP T j : Nat) : Int)) := (hB.cell (p := ⟨bs, m * 2 + 1, none⟩) (block_lt q1)).trans q1
      have HB := hide hB
      have HCH := hide hch2
      have HNN := hide hnn
      have HNL : Hid ((toksL T i).length = nn) := hnn.symm
      have HTK := hide htoks
      have HTN := hide htoksN
      have HTI := hide htin
      clear hB hch hch2 hp hpe hnn htoks htoksN htin HS2
      generalize hF0 : posP T i = F at *
      generalize hE0 : posP T j = E at *
      have hET : E ≤ T.length := hET0
      clear hF0 hE0 hET0
      obtain ⟨NU, nu1, nu2⟩ := pieces_count (partT T F E)
      have HUA := hide (toks_are nu1 nu2 (j - i) 0 _ (Nat.zero_le _) hpart)
      have NU1 := hide nu1
      have NU2 := hide nu2
      clear nu1 nu2 hpart
      have dm : (m : Int) < (M : Int) := by omega
      have dm0 : (0 : Int) ≤ (m : Int) := by omega
      have u1 : decide ((F : Int) < 0) = false := decide_eq_false (by omega)
      have u2 : decide ((T.length : Int) < (E : Int)) = false := decide_eq_false (by omega)
      have u3 : decide ((E : Int) < (F : Int)) = false := decide_eq_false (by omega)
      go_wp2
      go_quiet (fail)
      rename_i nq
      generalize hqW : wr.drewN nq = wq at *
      have HBQ : Hid (Below W3.heap.size W3 wq) := by rw [← hqW]; exact bdrewN HB.out _
      have d0 : wq.cell? ⟨bs, m * 2, none⟩ = some (.int .i64 (F : Int)) := by rw [← hqW, cell_drewN']; exact q0
      have d1 : wq.cell? ⟨bs, m * 2 + 1, none⟩ = some (.int .i64 (E : Int)) := by rw [← hqW, cell_drewN']; exact q1
      clear hqW q0 q1 HB
      go_wp2
      clear u1 u2 u3 wr
      have v1 : (F : Int) ≤ (E : Int) := by omega
      have v2 : (E : Int) ≤ (cap : Int) := by omega
      have v3 : (0 : Int) ≤ (F : Int) := by omega
      have v4 : (0 : Int) ≤ (E : Int) := by omega
      have v5 : ¬ cap = F := by omega
      refine wp_region_held_drew (S := fun X : World => X.cell? ⟨bs, m * 2, none⟩ = some (.int .i64 (F : Int)) ∧ X.cell? ⟨bs, m * 2 + 1, none⟩ = some (.int .i64 (E : Int)) ∧ Below wq.heap.size wq X) (by kernel_rfl) ⟨d0, d1, (Below.refl _ _).drew⟩ (fun hS0 => ?_)
      try simp only [Act.put, List.setIfInBounds_toArray, List.set_cons_zero, List.set_cons_succ]
      refine takeD (i := 0) (v := ?v1) (some 67) rfl (by kernel_rfl) (by kernel_rfl) (by kernel_rfl) (fun _ _ _ h => h) (Or.inl ⟨by rfl, ?hy1⟩) (by assumption) (by rfl) ?rest1
      case hy1 => first | (intro w hSw; (try dsimp only at hSw); go_simp; done) | (intro w hSw; (try dsimp only at hSw); go_simp; with_reducible rfl)
      try simp only [Act.put, List.setIfInBounds_toArray, List.set_cons_zero, List.set_cons_succ]
      refine takeD (i := 1) (v := ?v2) (some 68) rfl (by kernel_rfl) (by kernel_rfl) (by kernel_rfl) (fun _ _ _ h => h) (Or.inl ⟨by rfl, ?hy2⟩) (by assumption) (by rfl) ?rest2
      case hy2 => first | (intro w hSw; (try dsimp only at hSw); go_simp; done) | (intro w hSw; (try dsimp only at hSw); go_simp; with_reducible rfl)
      try simp only [Act.put, List.setIfInBounds_toArray, List.set_cons_zero, List.set_cons_succ]
      refine takeD (i := 2) (v := ?v3) (some 69) rfl (by kernel_rfl) (by kernel_rfl) (by kernel_rfl) (fun _ _ _ h => h) (Or.inl ⟨by rfl, ?hy3⟩) (by assumption) (by rfl) ?rest3
      case hy3 => first | (intro w hSw; (try dsimp only at hSw); go_simp; done) | (intro w hSw; (try dsimp only at hSw); go_simp; with_reducible rfl)
      try simp only [Act.put, List.setIfInBounds_toArray, List.set_cons_zero, List.set_cons_succ]
      refine takeD (i := 3) (v := ?v4) (some 70) rfl (by kernel_rfl) (by kernel_rfl) (by kernel_rfl) (fun _ _ _ h => h) (Or.inl ⟨by rfl, ?hy4⟩) (by assumption) (by rfl) ?rest4
      case hy4 => first | (intro w hSw; (try dsimp only at hSw); go_simp; done) | (intro w hSw; (try dsimp only at hSw); go_simp; with_reducible rfl)
      try simp only [Act.put, List.setIfInBounds_toArray, List.set_cons_zero, List.set_cons_succ]
      refine takeD (i := 4) (v := ?v5) (some 71) rfl (by kernel_rfl) (by kernel_rfl) (by kernel_rfl) (fun _ _ _ h => h) (Or.inl ⟨by rfl, ?hy5⟩) (by assumption) (by rfl) ?rest5
      case hy5 => first | (intro w hSw; (try dsimp only at hSw); go_simp; done) | (intro w hSw; (try dsimp only at hSw); go_simp; with_reducible rfl)
      try simp only [Act.put, List.setIfInBounds_toArray, List.set_cons_zero, List.set_cons_succ]
      refine takeD (i := 5) (v := ?v6) (some 72) rfl (by kernel_rfl) (by kernel_rfl) (by kernel_rfl) (fun _ _ _ h => h) (Or.inl ⟨by rfl, ?hy6⟩) (by assumption) (by rfl) ?rest6
      case hy6 => first | (intro w hSw; (try dsimp only at hSw); go_simp; done) | (intro w hSw; (try dsimp only at hSw); go_simp; with_reducible rfl)
      try simp only [Act.put, List.setIfInBounds_toArray, List.set_cons_zero, List.set_cons_succ]
      refine takeD (i := 6) (v := ?v7) (some 73) rfl (by kernel_rfl) (by kernel_rfl) (by kernel_rfl) (fun _ _ _ h => h) (Or.inl ⟨by rfl, ?hy7⟩) (by assumption) (by rfl) ?rest7
      case hy7 => first | (intro w hSw; (try dsimp only at hSw); go_simp; done) | (intro w hSw; (try dsimp only at hSw); go_simp; with_reducible rfl)
      try simp only [Act.put, List.setIfInBounds_toArray, List.set_cons_zero, List.set_cons_succ]
      refine takeD (i := 7) (v := ?v8) (some 74) rfl (by kernel_rfl) (by kernel_rfl) (by kernel_rfl) (fun _ _ _ h => h) (Or.inl ⟨by rfl, ?hy8⟩) (by assumption) (by rfl) ?rest8
      case hy8 => first | (intro w hSw; (try dsimp only at hSw); go_simp; done) | (intro w hSw; (try dsimp only at hSw); go_simp; with_reducible rfl)
      try simp only [Act.put, List.setIfInBounds_toArray, List.set_cons_zero, List.set_cons_succ]
      refine takeD (i := 8) (v := ?v9) (some 75) rfl (by kernel_rfl) (by kernel_rfl) (by kernel_rfl) (fun _ _ _ h => h) (Or.inl ⟨by rfl, ?hy9⟩) (by assumption) (by rfl) ?rest9
      case hy9 => first | (intro w hSw; (try dsimp only at hSw); go_simp; done) | (intro w hSw; (try dsimp only at hSw); go_simp; with_reducible rfl)
      try simp only [Act.put, List.setIfInBounds_toArray, List.set_cons_zero, List.set_cons_succ]
      refine takeD (i := 9) (v := ?v10) (some 76) rfl (by kernel_rfl) (by kernel_rfl) (by kernel_rfl) (fun _ _ _ h => h) (Or.inl ⟨by rfl, ?hy10⟩) (by assumption) (by rfl) ?rest10
      case hy10 => first | (intro w hSw; (try dsimp only at hSw); go_simp; done) | (intro w hSw; (try dsimp only at hSw); go_simp; with_reducible rfl)
      try simp only [Act.put, List.setIfInBounds_toArray, List.set_cons_zero, List.set_cons_succ]
      refine takeD (i := 10) (v := ?v11) (some 77) rfl (by kernel_rfl) (by kernel_rfl) (by kernel_rfl) (fun _ _ _ h => h) (Or.inl ⟨by rfl, ?hy11⟩) (by assumption) (by rfl) ?rest11
      case hy11 => first | (intro w hSw; (try dsimp only at hSw); go_simp; done) | (intro w hSw; (try dsimp only at hSw); go_simp; with_reducible rfl)
      try simp only [Act.put, List.setIfInBounds_toArray, List.set_cons_zero, List.set_cons_succ]
      refine takeD (i := 11) (v := ?v12) (some 78) rfl (by kernel_rfl) (by kernel_rfl) (by kernel_rfl) (fun _ _ _ h => h) (Or.inl ⟨by rfl, ?hy12⟩) (by assumption) (by rfl) ?rest12
      case hy12 => first | (intro w hSw; (try dsimp only at hSw); go_simp; done) | (intro w hSw; (try dsimp only at hSw); go_simp; with_reducible rfl)
      try simp only [Act.put, List.setIfInBounds_toArray, List.set_cons_zero, List.set_cons_succ]
      refine wpAnyH_ready (rs := [12]) (by kernel_rfl) (by simp) ?_
      refine AllReadyH.cons rfl (fun K hK => ?_) AllReadyH.nil
      go_simp
      have hUl := partT_length (T := T) (f := F) (t := E) hET
      refine (show Calls Try.prog 10 #[.slice (some ⟨b, off + F, none⟩) (E - F) (cap - F)] _ _ from by rw [← hUl]; exact tokens_calls _ (some ⟨b, off + F, none⟩) (cap - F) (partT T F E) NU (by rw [hUl]; exact (HBY.out.below (bafter HBQ.out hS0.2.2 (Nat.le_refl _))).cut (p := F) (m := E - F) (by omega)) NU1.out NU2.out (by rw [hUl]; omega) (by rw [hUl]; omega)).mono ?_
      rintro e X1 ⟨vt, at1, et, rfl, hTt, hx1⟩
      have hS1 : (fun X : World => X.cell? ⟨bs, m * 2, none⟩ = some (.int .i64 (F : Int)) ∧ X.cell? ⟨bs, m * 2 + 1, none⟩ = some (.int .i64 (E : Int)) ∧ Below wq.heap.size wq X) X1 := ⟨(hx1.cell (p := ⟨bs, m * 2, none⟩) (block_lt hS0.1)).trans hS0.1, (hx1.cell (p := ⟨bs, m * 2 + 1, none⟩) (block_lt hS0.2.1)).trans hS0.2.1, bafter hS0.2.2 hx1 (Nat.le_refl _)⟩
      have hU2 : et = 0 ∧ ToksIn X1 vt (partT T F E) ((tokR T i (j - i)).map (backT F) ++ [((0 : Int), E - F, E - F)]) := by
        rcases hTt.two with ⟨kz, hkz, _, hfz, _⟩ | ⟨_, _, e0, hIz⟩
        · exact absurd (HUA.out.1 kz (Nat.zero_le _) hkz) hfz
        · rw [HUA.out.2, toksL_zero, List.nil_append, hUl] at hIz
          exact ⟨e0, hIz⟩
      obtain ⟨rfl, hIt⟩ := hU2
      have HIT := hide hIt
      clear hS0 hx1 hTt hIt hUl
      go_wp2_with fail
      refine hK.out _ _ hS1 (fun _ => ?_)
      clear hK K
      try simp only [Act.put, List.setIfInBounds_toArray, List.set_cons_zero, List.set_cons_succ]
      refine takeD (i := 13) (v := ?v13) (some 66) rfl (by kernel_rfl) (by kernel_rfl) (by kernel_rfl) (fun _ _ _ h => h) (Or.inl ⟨by rfl, ?hy13⟩) (by assumption) (by rfl) ?rest13
      case hy13 => first | (intro w hSw; (try dsimp only at hSw); go_simp; done) | (intro w hSw; (try dsimp only at hSw); go_simp; with_reducible rfl)
      try simp only [Act.put, List.setIfInBounds_toArray, List.set_cons_zero, List.set_cons_succ]
      refine takeD (i := 14) (v := ?v14) (some 80) rfl (by kernel_rfl) (by kernel_rfl) (by kernel_rfl) (fun _ _ _ h => h) (Or.inl ⟨by rfl, ?hy14⟩) (by assumption) (by rfl) ?rest14
      case hy14 => first | (intro w hSw; (try dsimp only at hSw); go_simp; done) | (intro w hSw; (try dsimp only at hSw); go_simp; with_reducible rfl)
      try simp only [Act.put, List.setIfInBounds_toArray, List.set_cons_zero, List.set_cons_succ]
      refine takeD (i := 15) (v := ?v15) (some 81) rfl (by kernel_rfl) (by kernel_rfl) (by kernel_rfl) (fun _ _ _ h => h) (Or.inl ⟨by rfl, ?hy15⟩) (by assumption) (by rfl) ?rest15
      case hy15 => first | (intro w hSw; (try dsimp only at hSw); go_simp; done) | (intro w hSw; (try dsimp only at hSw); go_simp; with_reducible rfl)
      try simp only [Act.put, List.setIfInBounds_toArray, List.set_cons_zero, List.set_cons_succ]
      refine takeD (i := 16) (v := ?v16) (some 82) rfl (by kernel_rfl) (by kernel_rfl) (by kernel_rfl) (fun _ _ _ h => h) (Or.inl ⟨by rfl, ?hy16⟩) (by assumption) (by rfl) ?rest16
      case hy16 => first | (intro w hSw; (try dsimp only at hSw); go_simp; done) | (intro w hSw; (try dsimp only at hSw); go_simp; with_reducible rfl)
      try simp only [Act.put, List.setIfInBounds_toArray, List.set_cons_zero, List.set_cons_succ]
      refine takeD (i := 17) (v := ?v17) (some 9) rfl (by kernel_rfl) (by kernel_rfl) (by kernel_rfl) (fun _ _ _ h => h) (Or.inl ⟨by rfl, ?hy17⟩) (by assumption) (by rfl) ?rest17
      case hy17 => first | (intro w hSw; (try dsimp only at hSw); go_simp; done) | (intro w hSw; (try dsimp only at hSw); go_simp; with_reducible rfl)
      try simp only [Act.put, List.setIfInBounds_toArray, List.set_cons_zero, List.set_cons_succ]
      refine takeD (i := 18) (v := ?v18) (some 10) rfl (by kernel_rfl) (by kernel_rfl) (by kernel_rfl) (fun _ _ _ h => h) (Or.inl ⟨by rfl, ?hy18⟩) (by assumption) (by rfl) ?rest18
      case hy18 => first | (intro w hSw; (try dsimp only at hSw); go_simp; done) | (intro w hSw; (try dsimp only at hSw); go_simp; with_reducible rfl)
      try simp only [Act.put, List.setIfInBounds_toArray, List.set_cons_zero, List.set_cons_succ]
      refine takeD (i := 19) (v := ?v19) (some 11) rfl (by kernel_rfl) (by kernel_rfl) (by kernel_rfl) (fun _ _ _ h => h) (Or.inl ⟨by rfl, ?hy19⟩) (by assumption) (by rfl) ?rest19
      case hy19 => first | (intro w hSw; (try dsimp only at hSw); go_simp; done) | (intro w hSw; (try dsimp only at hSw); go_simp; with_reducible rfl)
      try simp only [Act.put, List.setIfInBounds_toArray, List.set_cons_zero, List.set_cons_succ]
      refine wpAnyH_done (by kernel_rfl) ?_ _
      have HB1 := hide (bafter HBQ.out hS1.2.2 (Nat.le_refl _))
      have z0 := hS1.1
      have z1 := hS1.2.1
      clear hS1 d0 d1
      obtain ⟨ao3, c3, rfl, hc3, hcs3⟩ := HIT.out
      have HS3 := hide hcs3
      have hlt3 : ((tokR T i (j - i)).map (backT F) ++ [((0 : Int), E - F, E - F)]).length = (tokR T i (j - i)).length + 1 := by simp
      have hlj : (toksL T i).length + (tokR T i (j - i)).length = (toksL T j).length := by rw [HTK.out, List.length_append]
      have hlN : (toksL T j).length + (tokR T j (N - j)).length = (toksL T N).length := by rw [HTN.out, List.length_append]
      have hli := toksL_le T i
      have hlj2 := toksL_le T j
      generalize ((tokR T i (j - i)).map (backT F) ++ [((0 : Int), E - F, E - F)]).length = lt at *
      have HLT : Hid (lt = (tokR T i (j - i)).length + 1 ∧ nn + (tokR T i (j - i)).length = (toksL T j).length ∧ nn + (tokR T i (j - i)).length ≤ (toksL T N).length) := ⟨hlt3, by rw [HNN.out]; exact hlj, by rw [HNN.out]; omega⟩
      have bl : lt ≤ 1501 := by omega
      have bl1 : 1 ≤ lt := by omega
      have bn : nn ≤ 1500 := by have := HNN.out; omega
      have bF : F ≤ 1500 := by omega
      clear hcs3 HIT hlt3 hlj hlN hli hlj2 HUA NU1 NU2 HNN HBQ
      go_wp2
      go_loopw [6, 12] (fun nv kv wr => ∃ k q : Nat, k ≤ lt - 1 ∧ kv = .int .i64 (k : Int) ∧ nv = .int .i64 (q : Int) ∧ q = nn + k ∧ Below X1.heap.size X1 wr) (fun _ kv _ => lt - (RowKit.intOf kv).toNat)
      case atStart => exact ⟨0, nn, Nat.zero_le _, rfl, rfl, rfl, Below.refl _ _⟩
      case round =>
        obtain ⟨k, q, hk, rfl, rfl, hq, hBr⟩ := hrel
        have HBR := hide hBr
        have HBW := hide (bafter HB1.out hBr (Nat.le_refl _))
        have HQ := hide hq
        have bq : q ≤ 3001 := by omega
        clear hBr hq
        by_cases hlt2 : k < lt - 1
        · have hkR : k < (tokR T i (j - i)).length := by have := HLT.out; omega
          obtain ⟨t, ht⟩ : ∃ t, (tokR T i (j - i))[k]? = some t := ⟨_, List.getElem?_eq_getElem hkR⟩
          have hti := HTI.out t (List.mem_of_getElem? ht)
          obtain ⟨b3, rfl, x0, x1, x2, x3⟩ := HS3.out k (backT F t) (by
            rw [List.getElem?_append_left (by simpa using hkR), List.getElem?_map, ht]
            rfl)
          obtain ⟨b1, rfl, y0, y1, y2, y3⟩ := HS1.out q t (by
            rw [List.getElem?_append_left (by have := HLT.out; have := HQ.out; omega), HTN.out, HTK.out, List.append_assoc, List.getElem?_append_right (by rw [HNL.out, HQ.out]; omega), HNL.out, HQ.out, Nat.add_sub_cancel_left, List.getElem?_append_left hkR]
            exact ht)
          rw [text_part hti.1 hti.2.1 hti.2.2] at x1
          replace x0 : wr.cell? ⟨b3, k * 4, none⟩ = _ := (HBR.out.cell (p := ⟨b3, k * 4, none⟩) (block_lt x0)).trans x0
          replace x1 : wr.cell? ⟨b3, k * 4 + 1, none⟩ = _ := (HBR.out.cell (p := ⟨b3, k * 4 + 1, none⟩) (block_lt x1)).trans x1
          replace x2 : wr.cell? ⟨b3, k * 4 + 2, none⟩ = _ := (HBR.out.cell (p := ⟨b3, k * 4 + 2, none⟩) (block_lt x2)).trans x2
          replace y0 : wr.cell? ⟨b1, q * 4, none⟩ = _ := (HBW.out.cell (p := ⟨b1, q * 4, none⟩) (block_lt y0)).trans y0
          replace y1 : wr.cell? ⟨b1, q * 4 + 1, none⟩ = _ := (HBW.out.cell (p := ⟨b1, q * 4 + 1, none⟩) (block_lt y1)).trans y1
          replace y2 : wr.cell? ⟨b1, q * 4 + 2, none⟩ = _ := (HBW.out.cell (p := ⟨b1, q * 4 + 2, none⟩) (block_lt y2)).trans y2
          have zz : wr.cell? ⟨bs, m * 2, none⟩ = some (.int .i64 (F : Int)) := (HBR.out.cell (p := ⟨bs, m * 2, none⟩) (block_lt z0)).trans z0
          have e1 : (backT F t).1 = t.1 := rfl
          rw [e1] at x0
          have hsum : (backT F t).2.1 + F = t.2.1 := by show t.2.1 - F + F = _; omega
          have hbd : t.2.1 ≤ 1500 := by omega
          generalize (backT F t).2.1 = pf at *
          generalize tokText T t = su at *
          generalize t.1 = kd at *
          generalize t.2.1 = pg at *
          have dq : (q : Int) < (Ln : Int) := by have := HLN.out; have := HLT.out; have := HQ.out; omega
          have dq1 : decide ((Ln : Int) ≤ (q : Int)) = false := decide_eq_false (by omega)
          have dq2 : decide ((q : Int) ≥ (Ln : Int)) = false := decide_eq_false (by omega)
          have dq3 : decide (Ln ≤ q) = false := decide_eq_false (by omega)
          have dq0 : (0 : Int) ≤ (q : Int) := by omega
          have dk : (k : Int) < (lt : Int) - 1 := by omega
          have dk1 : (k : Int) < (lt : Int) := by omega
          have dk0 : (0 : Int) ≤ (k : Int) := by omega
          have wv : IntKind.i64.wrap ((pf : Int) + (F : Int)) = (pg : Int) := by rw [wrap_int (by omega) (by omega)]; omega
          clear x3 y3 HS1 HS3 e1 hsum hti ht z0 z1
          go_wp2
          go_quiet (fail)
          go_wp2
          go_roundw
          case rel => exact ⟨k + 1, q + 1, by omega, by go_num, by go_num, by have := HQ.out; omega, bdrewN HBR.out _⟩
          case measure => simp [RowKit.intOf]; omega
        · have dk : ¬ (k : Int) < (lt : Int) - 1 := by omega
          have hke : k = lt - 1 := by omega
          have HKE := hide hke
          clear hke
          go_wp2
          go_roundw
          case rel => exact ⟨m + 1, j, q, by omega, by go_num, rfl, by have := HLT.out; have := HQ.out; have := HKE.out; omega, HCH.out, HBW.out⟩
          case measure => simp [RowKit.intOf]; omega
    · obtain rfl : m = M := by omega
      have dm : ¬ (m : Int) < (m : Int) := by omega
      have hea : ixEnd T N = a := by
        rw [List.drop_of_length_le (by rw [HM0.out]; exact Nat.le_refl _)] at hch
        exact hch
      have hfin : nn + 1 = Ln := by
        have := HLN.out
        rw [← end_toks, hea] at this
        omega
      have dn : ((nn : Int) == (Ln : Int) - 1) = true := by simp; omega
      have HB := hide hB
      clear hea hch hB hnn hfin
      go_wp2
      go_ret
      exact ⟨rfl, K3.out.trans (HB.out.mono K3.out.size)⟩

end Go.Proofs.Ytehflaenehehhaa
