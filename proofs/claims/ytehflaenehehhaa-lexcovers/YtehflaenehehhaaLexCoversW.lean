/- The law LexCovers, walked. -/
import Derived.Test.YtehflaenehehhaaLCover
namespace Go.Proofs.Ytehflaenehehhaa
set_option linter.unusedVariables false
set_option linter.unusedSimpArgs false
set_option maxRecDepth 100000
open Go Go.RowKit Go.Shelf Go.Lib

theorem cell_drewN (W : World) (n : Nat) (p : Addr) : (W.drewN n).cell? p = W.cell? p := by
  induction n with
  | zero => rfl
  | succ n ih => exact ih

theorem byts_empty (W : World) (ao : Option Addr) (cap : Nat) : Byts W (.slice ao 0 cap) [] := ⟨ao, cap, rfl, fun x hx => by simp at hx, fun j hj => by simp at hj⟩

set_option maxHeartbeats 8000000 in
theorem lexcovers_some (w : World) (b off cap : Nat) (T : List Nat) (h : Byts w (.slice (some ⟨b, off, none⟩) T.length cap) T) (hcap : T.length ≤ cap) (hpos : 0 < T.length) :
    Calls Try.prog 6 #[.slice (some ⟨b, off, none⟩) T.length cap] w fun e w' => e = .returned (.bool true) ∧ Below w.heap.size w w' := by
  have H := hide h
  clear h
  by_cases hl : 2000 < T.length
  · have dl : decide ((2000 : Int) < (T.length : Int)) = true := decide_eq_true (by omega)
    have dl' : (2000 : Int) < (T.length : Int) := by omega
    go_enter Try.func6, Try.ntmps6
    go_wp2_with fail
    refine (parted_calls w).mono ?_
    rintro e W1 ⟨rfl, hb1⟩
    have K1 := hide hb1
    clear hb1
    go_wp2_with fail
    refine (parted_calls W1).mono ?_
    rintro e W2 ⟨rfl, hb2⟩
    go_wp2
    go_ret
    exact ⟨rfl, bafter K1.out hb2 (Nat.le_refl _)⟩
  have dl : ¬ (2000 : Int) < (T.length : Int) := by omega
  obtain ⟨N, n1, n2⟩ := pieces_count T
  have hN : N ≤ 2000 := by have := posP_ge n1 N (Nat.le_refl _); omega
  have N1 := hide n1
  have N2 := hide n2
  clear n1 n2
  go_enter Try.func6, Try.ntmps6
  go_wp2_with fail
  refine (parted_calls w).mono ?_
  rintro e W1 ⟨rfl, hb1⟩
  have K1 := hide hb1
  clear hb1
  go_wp2_with fail
  refine (tokens_calls W1 (some ⟨b, off, none⟩) cap T N (H.out.below K1.out) N1.out N2.out (by omega) hcap).mono ?_
  rintro e W2 ⟨v, a, er, rfl, hT, hb2⟩
  have K2 := hide (bafter K1.out hb2 (Nat.le_refl _))
  clear hb2 K1
  rcases hT.two with ⟨k, hk, hf, hb, rfl, rfl, rfl⟩ | ⟨hf, rfl, rfl, hI⟩
  · have hx : (faultAt T k != 0) = true := by simp [hb]
    have dp : ((posP T k : Nat) : Int) < (T.length : Int) := by have := N1.out k hk; omega
    have dp0 : (0 : Int) ≤ ((posP T k : Nat) : Int) := by omega
    clear hT hf hb
    generalize faultAt T k = fe at *
    generalize ((posP T k : Nat) : Int) = pk at *
    go_wp2
    go_ret
    exact ⟨rfl, K2.out⟩
  · clear hT
    have hcov := toks_cover H.out.small N1.out N2.out hf
    generalize hLL : toksL T N ++ [(0, T.length, T.length)] = L at *
    have hlast : Hid (L[L.length - 1]? = some (0, T.length, T.length)) := by show _ = _; rw [← hLL]; simp
    have hLn : L.length ≤ 2001 := by have := toksL_le T N; rw [← hLL]; simp; omega
    have hL1 : 1 ≤ L.length := by rw [← hLL]; simp
    have HCOV := hide hcov
    have HI := hide hI
    clear hcov hI hf hLL
    go_wp2_with fail
    refine (rmarks_calls W2 (some ⟨b, off, none⟩) cap T (H.out.below K2.out) (by omega) hcap).mono ?_
    rintro e W3 ⟨rv, rfl, ⟨mb, mc, rfl, hmc, hmk⟩, hb3⟩
    have HMK := hide hmk
    have K3 := hide (bafter K2.out hb3 (Nat.le_refl _))
    obtain ⟨ao1, c1, rfl, hc1, hcs1⟩ := HI.out.below hb3
    have HS1 := hide hcs1
    have HBY := hide (H.out.below K3.out)
    clear hmk hb3 hcs1 HI
    generalize hLn0 : L.length = Ln at *
    have HLN := hide hLn0
    clear hLn0
    go_wp2
    go_loopw [7, 8] (fun ev i wr => ∃ j e : Nat, j ≤ Ln ∧ ev = .int .i64 (e : Int) ∧ i = .int .i64 (j : Int) ∧ Cover T e (L.drop j) ∧ Below W3.heap.size W3 wr) (fun _ i _ => Ln - (RowKit.intOf i).toNat)
    case atStart => exact ⟨0, 0, Nat.zero_le _, rfl, rfl, HCOV.out, Below.refl _ _⟩
    case round =>
      obtain ⟨j, e, hj, rfl, rfl, hcv, hB⟩ := hrel
      by_cases hlt : j < Ln
      · obtain ⟨t, ht⟩ : ∃ t, L[j]? = some t := ⟨_, List.getElem?_eq_getElem (by rw [HLN.out]; exact hlt)⟩
        obtain ⟨r1, r2, r3, r4, r5, r6⟩ := cover_at hcv ht
        obtain ⟨b1, rfl, x0, x1, x2, x3⟩ := HS1.out j t ht
        replace x1 : wr.cell? ⟨b1, j * 4 + 1, none⟩ = _ := (hB.cell (p := ⟨b1, j * 4 + 1, none⟩) (block_lt x1)).trans x1
        replace x2 : wr.cell? ⟨b1, j * 4 + 2, none⟩ = _ := (hB.cell (p := ⟨b1, j * 4 + 2, none⟩) (block_lt x2)).trans x2
        replace x3 : wr.cell? ⟨b1, j * 4 + 3, none⟩ = _ := (hB.cell (p := ⟨b1, j * 4 + 3, none⟩) (block_lt x3)).trans x3
        rw [show tokText T t = strOf ((T.drop t.2.1).take (t.2.2 - t.2.1)) from rfl] at x1
        have R4 : Hid (t.2.1 = t.2.2 ↔ j + 1 = Ln) := by show _ ↔ _; rw [r4, HLN.out]
        have R5 := hide r5
        have R6 := hide r6
        generalize hP : t.2.1 = P at *
        generalize hQ : t.2.2 = Q at *
        clear hP hQ hcv ht x0 r4 r5 r6
        have kA := bel wr (.cells #[.int .i64 (P : Int), .int .i64 (Q : Int)] 32)
        have hx1 : (wr.alloc (.cells #[.int .i64 (P : Int), .int .i64 (Q : Int)] 32)).cell? ⟨b1, j * 4 + 1, none⟩ = some (.string (strOf ((T.drop P).take (Q - P)))) := (kA.cell (p := ⟨b1, j * 4 + 1, none⟩) (block_lt x1)).trans x1
        have hy0 : (wr.alloc (.cells #[.int .i64 (P : Int), .int .i64 (Q : Int)] 32)).cell? ⟨wr.heap.size, 0, none⟩ = some (.int .i64 (P : Int)) := World.cell?_alloc_mark wr #[.int .i64 (P : Int), .int .i64 (Q : Int)] 32 (0, 0) 0
        have hy1 : (wr.alloc (.cells #[.int .i64 (P : Int), .int .i64 (Q : Int)] 32)).cell? ⟨wr.heap.size, 1, none⟩ = some (.int .i64 (Q : Int)) := World.cell?_alloc_mark wr #[.int .i64 (P : Int), .int .i64 (Q : Int)] 32 (0, 0) 1
        have HBW := hide (bafter hB kA (Nat.le_refl _))
        have HX := hide (And.intro hx1 (And.intro hy0 hy1))
        have dj : (j : Int) < (Ln : Int) := by omega
        have dj0 : (0 : Int) ≤ (j : Int) := by omega
        clear kA hB x1 hx1 hy0 hy1
        go_wp2
        obtain ⟨hx1, hy0, hy1⟩ := HX.out
        generalize hwo : wr.alloc (.cells #[.int .i64 (P : Int), .int .i64 (Q : Int)] 32) = wo at *
        generalize hbx : wr.heap.size = B at *
        clear hwo hbx x2 x3 HX wr
        have e1 : decide ((P : Int) < (e : Int)) = false := decide_eq_false (by omega)
        have e2 : decide ((Q : Int) < (P : Int)) = false := decide_eq_false (by omega)
        have e3 : decide ((T.length : Int) < (Q : Int)) = false := decide_eq_false (by omega)
        have q1 : (P : Int) ≤ (Q : Int) := by omega
        have q2 : (Q : Int) ≤ (cap : Int) := by omega
        have q3 : (0 : Int) ≤ (P : Int) := by omega
        have q4 : (0 : Int) ≤ (Q : Int) := by omega
        have hb5 : (((P : Int) == (Q : Int)) != ((j : Int) == (Ln : Int) - 1)) = false := by
          by_cases g : P = Q
          · have g2 : ((P : Int) == (Q : Int)) = true := by simp [g]
            have g3 : ((j : Int) == (Ln : Int) - 1) = true := by have := R4.out.1 g; simp; omega
            rw [g2, g3]; rfl
          · have g2 : ((P : Int) == (Q : Int)) = false := beq_eq_false_iff_ne.2 (by omega)
            have g3 : ((j : Int) == (Ln : Int) - 1) = false := beq_eq_false_iff_ne.2 (fun h => g (R4.out.2 (by omega)))
            rw [g2, g3]; rfl
        have hw1 : IntKind.i64.wrap ((Ln : Int) - 1) = (Ln : Int) - 1 := wrap_int (by omega) (by omega)
        have HMo : Hid (∀ i, i < T.length → wo.cell? ⟨mb, i, none⟩ = some (.int .i64 (markAt T i))) := fun i hi => (HBW.out.cell (p := ⟨mb, i, none⟩) (block_lt (HMK.out i hi))).trans (HMK.out i hi)
        clear R4
        have HBYo := hide (HBY.out.below HBW.out)
        by_cases gc : cap = P
        · have gq : cap = Q := by omega
          have HTL : Hid (T.length = cap) := by show _ = _; omega
          subst gc
          subst gq
          have hcv : ∀ n, (convert 22 9 (.slice (some ⟨b, off, none⟩) 0 0)).run Try.prog (wo.drewN n) = .ok (.string (strOf [])) (wo.drewN n) := fun n => conv_byts (byts_empty _ _ _)
          rw [Nat.sub_self, List.take_zero] at hx1
          generalize strOf [] = su at *
          go_quiet (fail)
          rename_i nq
          generalize hqW : wo.drewN nq = wq at *
          have HBQ : Hid (Below W3.heap.size W3 wq) := by rw [← hqW]; exact bdrewN HBW.out _
          have hz0 : wq.cell? ⟨B, 0, none⟩ = some (.int .i64 (cap : Int)) := by rw [← hqW, cell_drewN]; exact hy0
          have hz1 : wq.cell? ⟨B, 1, none⟩ = some (.int .i64 (cap : Int)) := by rw [← hqW, cell_drewN]; exact hy1
          have HMq : Hid (∀ i, i < T.length → wq.cell? ⟨mb, i, none⟩ = some (.int .i64 (markAt T i))) := fun i hi => by rw [← hqW, cell_drewN]; exact HMo.out i hi
          clear hqW hx1 hy0 hy1 hcv HBW HMo HBYo wo
          go_wp2
          · rename_i hbad
            exfalso
            clear e1 e2 e3
            have hT := HTL.out
            have h5 := hb5
            simp at h5 hbad
            omega
          clear hb5 hw1 e1 e2 e3
          go_loopw [10] (fun kv wr => ∃ i : Nat, e ≤ i ∧ i ≤ cap ∧ kv = .int .i64 (i : Int) ∧ wr = wq) (fun kv _ => cap - (RowKit.intOf kv).toNat)
          case atStart => exact ⟨e, Nat.le_refl _, by omega, rfl, rfl⟩
          case round =>
            obtain ⟨i, i1, i2, rfl, hwr⟩ := hrel
            rw [hwr]
            clear hwr
            by_cases gi : i < cap
            · have di : (i : Int) < (cap : Int) := by omega
              have di0 : (0 : Int) ≤ (i : Int) := by omega
              have di1 : (i : Int) < (T.length : Int) := by omega
              have cm := HMq.out i (by omega)
              rw [show markAt T i = 1 by unfold markAt; rw [R5.out i i1 gi]; rfl] at cm
              go_wp2
              go_roundw
              case rel => exact ⟨i + 1, by omega, by omega, by go_num, trivial⟩
              case measure => simp [RowKit.intOf]; omega
            · have di : ¬ (i : Int) < (cap : Int) := by omega
              go_wp2
              go_roundw
              case rel => exact ⟨j + 1, cap, by omega, rfl, by go_num, R6.out, HBQ.out⟩
              case measure => simp [RowKit.intOf]; omega
        · have hcv := fun n => conv_byts ((HBY.out.below (bdrewN HBW.out n)).cut (cap' := cap - P) (p := P) (m := Q - P) (by omega))
          generalize strOf ((T.drop P).take (Q - P)) = su at *
          go_quiet (fail)
          rename_i nq
          generalize hqW : wo.drewN nq = wq at *
          have HBQ : Hid (Below W3.heap.size W3 wq) := by rw [← hqW]; exact bdrewN HBW.out _
          have hz0 : wq.cell? ⟨B, 0, none⟩ = some (.int .i64 (P : Int)) := by rw [← hqW, cell_drewN]; exact hy0
          have hz1 : wq.cell? ⟨B, 1, none⟩ = some (.int .i64 (Q : Int)) := by rw [← hqW, cell_drewN]; exact hy1
          have HMq : Hid (∀ i, i < T.length → wq.cell? ⟨mb, i, none⟩ = some (.int .i64 (markAt T i))) := fun i hi => by rw [← hqW, cell_drewN]; exact HMo.out i hi
          clear hqW hx1 hy0 hy1 hcv HBW HMo HBYo wo
          go_wp2
          · rename_i hbad
            exfalso
            clear e1 e2 e3
            rcases hbad with ((g | g) | g) | g
            · omega
            · omega
            · omega
            · revert hb5 g
              generalize (((P : Nat) : Int) == ((Q : Nat) : Int)) = x1
              generalize ((j : Int) == (Ln : Int) - 1) = x2
              cases x1 <;> cases x2 <;> simp
          clear hb5 hw1 e1 e2 e3
          go_loopw [10] (fun kv wr => ∃ i : Nat, e ≤ i ∧ i ≤ P ∧ kv = .int .i64 (i : Int) ∧ wr = wq) (fun kv _ => P - (RowKit.intOf kv).toNat)
          case atStart => exact ⟨e, Nat.le_refl _, by omega, rfl, rfl⟩
          case round =>
            obtain ⟨i, i1, i2, rfl, hwr⟩ := hrel
            rw [hwr]
            clear hwr
            by_cases gi : i < P
            · have di : (i : Int) < (P : Int) := by omega
              have di0 : (0 : Int) ≤ (i : Int) := by omega
              have di1 : (i : Int) < (T.length : Int) := by omega
              have cm := HMq.out i (by omega)
              rw [show markAt T i = 1 by unfold markAt; rw [R5.out i i1 gi]; rfl] at cm
              go_wp2
              go_roundw
              case rel => exact ⟨i + 1, by omega, by omega, by go_num, trivial⟩
              case measure => simp [RowKit.intOf]; omega
            · have di : ¬ (i : Int) < (P : Int) := by omega
              go_wp2
              go_roundw
              case rel => exact ⟨j + 1, Q, by omega, rfl, by go_num, R6.out, HBQ.out⟩
              case measure => simp [RowKit.intOf]; omega
      · obtain rfl : j = Ln := by omega
        have dj : ¬ (j : Int) < (j : Int) := by omega
        obtain ⟨b1, rfl, x0, _, _, _⟩ := HS1.out _ _ hlast.out
        have hel : e = T.length := by
          rw [List.drop_of_length_le (by rw [HLN.out]; exact Nat.le_refl _)] at hcv
          exact hcv
        have y0 : wr.cell? ⟨b1, (j - 1) * 4, none⟩ = some (.int .i64 0) := (hB.cell (p := ⟨b1, (j - 1) * 4, none⟩) (block_lt x0)).trans x0
        have HB := hide hB
        clear hB x0 hcv HS1 HCOV
        subst hel
        have dp : (j : Int) > 0 := by omega
        have dp2 : (0 : Int) < (j : Int) := by omega
        have g1 : (0 : Int) ≤ (j : Int) - 1 := by omega
        have g2 : (j : Int) - 1 < (j : Int) := by omega
        have g3 : ((j : Int) - 1).toNat = j - 1 := by omega
        go_wp2
        go_ret
        exact ⟨rfl, K3.out.trans (HB.out.mono K3.out.size)⟩

end Go.Proofs.Ytehflaenehehhaa
