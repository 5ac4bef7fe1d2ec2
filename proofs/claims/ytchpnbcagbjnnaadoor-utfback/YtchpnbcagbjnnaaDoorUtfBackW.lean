/- The law UtfBack, walked. -/
import Derived.Test.YtchpnbcagbjnnaaDoorULaw1
import Derived.Test.YtchpnbcagbjnnaaDoorULets2
import Derived.Test.YtchpnbcagbjnnaaDoorUBack
namespace Go.Proofs.YtchpnbcagbjnnaaDoor
set_option linter.unusedVariables false
set_option linter.unusedSimpArgs false
set_option maxRecDepth 100000
open Go Go.RowKit Go.Shelf Go.Lib

theorem told_let {T : List Nat} {N a : Nat} {e : Int} (h : Told T N a e) (he : e = 0) : AllLet T N := by
  rcases h with ⟨k, _, _, _, _, h⟩ | ⟨h, _⟩
  · omega
  · exact h
/-- What is known of the last place, ahead of letter k. -/
def Last (T : List Nat) (N k : Nat) (ll lu : Int) : Prop := (k = 0 ∧ ll = 0 ∧ lu = -1) ∨ ∃ j ln un i j0 je, k = j + 1 ∧ Stands T N j ln un i j0 je ∧ ll = ln ∧ lu ≤ un ∧ -1 ≤ lu
theorem last_ok {T : List Nat} {N k : Nat} (hT : ∀ x ∈ T, x < 256) (h1 : ∀ k, k < N → posL T k < T.length) (hk : k < N) {ll lu ln un : Int} {i j0 je : Nat} (h : Last T N k ll lu) (h' : Stands T N k ln un i j0 je) : ll ≤ ln ∧ (ln = ll → lu ≤ un ∧ (k < je → lu < un)) := by
  have hf := stands_first h'
  rcases h with ⟨rfl, rfl, rfl⟩ | ⟨j, ln', un', i', j0', je', rfl, hs, rfl, hle, _⟩
  · exact ⟨hf.1, fun _ => ⟨by omega, fun _ => by omega⟩⟩
  · obtain ⟨a, b⟩ := stands_rise hT h1 hk hs h'
    refine ⟨a, fun e => ?_⟩
    obtain ⟨c, d⟩ := b e.symm
    exact ⟨by omega, fun g => by have := d g; omega⟩

set_option maxHeartbeats 8000000 in
theorem utfback_calls (w : World) (ao : Option Addr) (cap : Nat) (T : List Nat) (h : Byt w ao cap T) (hK : Know w) :
    Calls Tryd.prog 8 #[.slice ao T.length cap] w fun e w' => e = .returned (.bool true) ∧ Below w.heap.size w w' := by
  obtain ⟨N, n1, n2⟩ := letters_count h.1.small
  have HSm := hide h.1.small
  have H := hide h
  have HK := hide hK
  have N1 := hide n1
  have N2 := hide n2
  have hN : N ≤ T.length := by have := posL_ge h.1.small n1 N (Nat.le_refl _); omega
  clear h hK n1 n2
  by_cases hl : T.length ≤ 400
  · have hl' : ¬ (T.length : Int) > 400 := by omega
    go_enter Tryd.func8, Tryd.ntmps8
    go_wp2_with fail
    refine (lettered_calls _ HK.out).mono ?_
    rintro e V1 ⟨rfl, hb1⟩
    have KB1 := hide hb1
    have H1 := hide (H.out.below hb1)
    clear hb1
    go_wp2_with fail
    refine (valid_calls _ _ _ T N H1.out.1 (HK.out.below KB1.out).tabs N1.out N2.out (by omega) H1.out.2.1).mono ?_
    rintro e V2 ⟨a1, e1, rfl, hT1, hb2⟩
    have KB2 := hide (bafter KB1.out hb2 (Nat.le_refl _))
    have HT1 := hide hT1
    have H2 := hide (H.out.below KB2.out)
    clear hb2 hT1 H1 KB1
    by_cases he : e1 = 0
    · have HV := hide (told_let HT1.out he)
      subst he
      have z1 : ((0 : Int) != 0) = false := by decide
      clear HT1
      go_wp2_with fail
      refine (lines_calls _ _ _ T H2.out.1 (by omega)).mono ?_
      rintro e WB ⟨lv, rfl, hO, hb3⟩
      obtain ⟨la, lc, rfl, _⟩ := hO.ints
      have HLn := hide hO.ints
      have KB := hide (bafter KB2.out hb3 (Nat.le_refl _))
      have hll : (linesL T).length ≤ 401 := by have := linesTo_length T T.length; unfold linesL; omega
      clear hO hb3 H2 KB2
      go_wp2_with fail
      have hbA : Below WB.heap.size WB (WB.alloc (.cells #[.int .i64 0, .int .i64 (-1)] 49)) := bel _ _
      have KA := hide (bafter KB.out hbA (Nat.le_refl _))
      refine (rletters_own _ _ _ T N (H.out.below KA.out).1 (H.out.below KA.out).2.1 N1.out N2.out (by omega)).mono ?_
      rintro e W0 ⟨rv, rfl, hOw, hb4⟩
      have hOw' : OwnL (WB.heap.size + 1) W0 rv T N := by simpa using hOw
      obtain ⟨lo, lcap, rfl, _⟩ := hOw.lets
      have HOw := hide hOw'
      have HBx := hide ((Box2.new WB 49 (.int .i64 0) (.int .i64 (-1))).below hb4)
      have HB0 := hide (bafter hbA hb4 (Nat.le_refl _))
      clear hOw hOw' hb4 hbA KA
      go_wp2
      go_loopw [8] (fun i wr => ∃ (k : Nat) (ll lu : Int), k ≤ N ∧ i = .int .i64 (k : Int) ∧ Last T N k ll lu ∧ Box2 wr WB.heap.size 49 (.int .i64 ll) (.int .i64 lu) ∧ OwnL (WB.heap.size + 1) wr (.slice lo N lcap) T N ∧ Below WB.heap.size WB wr) (fun i _ => N - (RowKit.intOf i).toNat)
      case atStart => exact ⟨0, 0, -1, Nat.zero_le _, rfl, .inl ⟨rfl, rfl, rfl⟩, HBx.out, HOw.out, HB0.out⟩
      case round =>
        clear HBx HOw HB0
        obtain ⟨k, ll, lu, hk, rfl, hla, hbx, how, hB⟩ := hrel
        have HLa := hide hla
        have HBx := hide hbx
        have HOw := hide how
        have HB := hide hB
        by_cases hlt : k < N
        · obtain ⟨lb, rfl, c0, c1, _⟩ : ∃ b, lo = some ⟨b, 0, none⟩ ∧ wr.cell? ⟨b, 3 * k, none⟩ = some (.int .i64 ((posL T k : Nat) : Int)) ∧ wr.cell? ⟨b, 3 * k + 1, none⟩ = some (.int .i64 (runeAt T (posL T k))) ∧ True := by
            obtain ⟨_, _, e, hc⟩ := how.lets
            cases e
            obtain ⟨b, e, h1, h2, _⟩ := hc k hlt
            exact ⟨b, e, h1, h2, trivial⟩
          have hb3 : lb < wr.heap.size := block_lt c0
          have d1 : (k : Int) < (N : Int) := by omega
          have d0 : (0 : Int) ≤ (k : Int) := by omega
          have hkm : k * 3 = 3 * k := by omega
          have hKB := hide (bafter KB.out hB (Nat.le_refl _))
          have HPl := hide (place_calls wr ao cap T _ (linesL T) ((posL T k : Nat) : Int) (H.out.below hKB.out) (HLn.out.below hB) (HK.out.below hKB.out) (by omega) (by omega))
          have hNb : N ≤ 400 := by omega
          have hub := unitsL_le T k
          obtain ⟨P, hP⟩ : ∃ P, posL T k = P := ⟨_, rfl⟩
          obtain ⟨R, hR⟩ : ∃ R, runeAt T P = R := ⟨_, rfl⟩
          rw [hP] at c0 c1 HPl
          rw [hR] at c1
          have HP := hide hP
          have HR := hide hR
          clear hla hbx how hB hP hR
          go_wp2_with fail
          refine HPl.out.mono ?_
          rintro e W1 ⟨ln, un, rfl, hpl, hb5⟩
          rw [← HP.out] at hpl
          obtain ⟨i, j0, je, hst⟩ := place_stands HSm.out N1.out N2.out HV.out hlt hpl
          obtain ⟨f1, f2, f3⟩ := stands_first hst
          obtain ⟨o1, o2⟩ := last_ok HSm.out N1.out hlt HLa.out hst
          have hlu : -1 ≤ lu := by
            rcases HLa.out with ⟨_, _, h⟩ | ⟨_, _, _, _, _, _, _, _, _, _, h⟩
            · omega
            · exact h
          have hin : (R ≠ 10 ∧ R ≠ 13) → k < je := fun g => stands_inside HSm.out N1.out hlt hst (by rw [HP.out, HR.out]; exact g)
          have HS := hide hst
          have HO1 := hide o1
          have HO2 := hide o2
          have HInn := hide hin
          have hBx1 := HBx.out.below hb5
          have hOw1 := HOw.out.keep hb5
          have hB1 := bafter HB.out hb5 (Nat.le_refl _)
          have c0' := (hb5.cell (p := ⟨lb, 3 * k, none⟩) (block_lt c0)).trans c0
          have c1' := (hb5.cell (p := ⟨lb, 3 * k + 1, none⟩) (block_lt c1)).trans c1
          have hlb1 : lb < W1.heap.size := block_lt c0'
          have hBL1 : WB.heap.size < W1.heap.size := hBx1.lt
          obtain ⟨W2, hW2⟩ : ∃ W2, W1.alloc (.cells #[.int .i64 ln, .int .i64 un] 49) = W2 := ⟨_, rfl⟩
          have hb6 : Below W1.heap.size W1 W2 := by rw [← hW2]; exact bel _ _
          have bT : Box2 W2 W1.heap.size 49 (.int .i64 ln) (.int .i64 un) := by rw [← hW2]; exact Box2.new _ _ _ _
          have d0 := bT.cell0
          have d1 := bT.cell1
          have hBx2 := hBx1.below hb6
          have hOw2 := hOw1.keep hb6
          have hB2 := bafter hB1 hb6 (Nat.le_refl _)
          have e0 := (hb6.cell (p := ⟨lb, 3 * k, none⟩) (block_lt c0')).trans c0'
          have e1 := (hb6.cell (p := ⟨lb, 3 * k + 1, none⟩) (block_lt c1')).trans c1'
          have HBx2 := hide hBx2
          have HOw2 := hide hOw2
          have HB2 := hide hB2
          have HK2 := hide (HK.out.below (bafter KB.out hB2 (Nat.le_refl _)))
          have HT2 := hide (H.out.below (bafter KB.out hB2 (Nat.le_refl _)))
          have HLn2 := hide (HLn.out.below hB2)
          have hs12 : W1.heap.size < W2.heap.size := bT.lt
          have ne1 : ¬ WB.heap.size = W1.heap.size := by omega
          have ne2 : ¬ W1.heap.size = WB.heap.size := by omega
          clear HPl hpl hst o1 o2 hin hb5 hb6 HBx HOw HB hBx1 hOw1 hB1 c0 c1 c0' c1' hBx2 hOw2 hB2 hKB bT
          by_cases hend : R = 10 ∨ R = 13
          · have f60 := HBx2.out.frozen0
            have f61 := HBx2.out.frozen1
            have y0 := HBx2.out.cell0
            have y1 := HBx2.out.cell1
            have hc1 : ¬ ln < ll := by have := HO1.out; omega
            have hwu : IntKind.i64.wrap (un - 1) = un - 1 := by rw [IntKind.wrap_i64]; omega
            have hc2 : ln = ll → ¬ un < lu := fun e => by have := (HO2.out e).1; omega
            have HC2 := hide hc2
            have HF := hide (show 0 ≤ un by omega)
            clear hc2 HInn
            rcases hend with hR | hR
            · subst hR
              have q1 : ((10 : Int) == 10) = true := by decide
              go_wp2
              refine wp_region_held_drew (S := fun X : World => X.cell? ⟨W1.heap.size, 0, none⟩ = some (.int .i64 ln) ∧ X.cell? ⟨W1.heap.size, 1, none⟩ = some (.int .i64 un) ∧ X.cell? ⟨lb, 3 * k, none⟩ = some (.int .i64 (P : Int)) ∧ Below W2.heap.size W2 X) (by kernel_rfl) ⟨d0, d1, e0, (Below.refl _ _).drew⟩ (fun hS0 => ?_)
              try simp only [Act.put, List.setIfInBounds_toArray, List.set_cons_zero, List.set_cons_succ]
              refine takeD (i := 0) (v := ?v28) (some 59) rfl (by kernel_rfl) (by kernel_rfl) (by kernel_rfl) (fun _ _ _ h => h) (Or.inl ⟨by rfl, ?hy28⟩) (by assumption) (by rfl) ?rest28
              case hy28 => first | (intro w hSw; (try dsimp only at hSw); go_simp; done) | (intro w hSw; (try dsimp only at hSw); go_simp; with_reducible rfl)
              try simp only [Act.put, List.setIfInBounds_toArray, List.set_cons_zero, List.set_cons_succ]
              refine takeD (i := 1) (v := ?v29) (some 60) rfl (by kernel_rfl) (by kernel_rfl) (by kernel_rfl) (fun _ _ _ h => h) (Or.inl ⟨by rfl, ?hy29⟩) (by assumption) (by rfl) ?rest29
              case hy29 => first | (intro w hSw; (try dsimp only at hSw); go_simp; done) | (intro w hSw; (try dsimp only at hSw); go_simp; with_reducible rfl)
              try simp only [Act.put, List.setIfInBounds_toArray, List.set_cons_zero, List.set_cons_succ]
              refine takeD (i := 2) (v := ?v30) (some 61) rfl (by kernel_rfl) (by kernel_rfl) (by kernel_rfl) (fun _ _ _ h => h) (Or.inl ⟨by rfl, ?hy30⟩) (by assumption) (by rfl) ?rest30
              case hy30 => first | (intro w hSw; (try dsimp only at hSw); go_simp; done) | (intro w hSw; (try dsimp only at hSw); go_simp; with_reducible rfl)
              try simp only [Act.put, List.setIfInBounds_toArray, List.set_cons_zero, List.set_cons_succ]
              refine takeD (i := 3) (v := undef) (some 62) rfl (by kernel_rfl) (by kernel_rfl) (by kernel_rfl) (fun _ _ _ h => h) (Or.inr ⟨by rfl, rfl⟩) (by assumption) (by rfl) ?rest31
              try simp only [Act.put, List.setIfInBounds_toArray, List.set_cons_zero, List.set_cons_succ]
              refine takeD (i := 4) (v := undef) (some 63) rfl (by kernel_rfl) (by kernel_rfl) (by kernel_rfl) (fun _ _ _ h => h) (Or.inr ⟨by rfl, rfl⟩) (by assumption) (by rfl) ?rest32
              try simp only [Act.put, List.setIfInBounds_toArray, List.set_cons_zero, List.set_cons_succ]
              refine takeD (i := 5) (v := undef) (some 64) rfl (by kernel_rfl) (by kernel_rfl) (by kernel_rfl) (fun _ _ _ h => h) (Or.inr ⟨by rfl, rfl⟩) (by assumption) (by rfl) ?rest33
              try simp only [Act.put, List.setIfInBounds_toArray, List.set_cons_zero, List.set_cons_succ]
              refine takeD (i := 6) (v := undef) (some 65) rfl (by kernel_rfl) (by kernel_rfl) (by kernel_rfl) (fun _ _ _ h => h) (Or.inr ⟨by rfl, rfl⟩) (by assumption) (by rfl) ?rest34
              try simp only [Act.put, List.setIfInBounds_toArray, List.set_cons_zero, List.set_cons_succ]
              refine takeD (i := 7) (v := undef) (some 66) rfl (by kernel_rfl) (by kernel_rfl) (by kernel_rfl) (fun _ _ _ h => h) (Or.inr ⟨by rfl, rfl⟩) (by assumption) (by rfl) ?rest35
              try simp only [Act.put, List.setIfInBounds_toArray, List.set_cons_zero, List.set_cons_succ]
              refine takeD (i := 8) (v := undef) (some 67) rfl (by kernel_rfl) (by kernel_rfl) (by kernel_rfl) (fun _ _ _ h => h) (Or.inr ⟨by rfl, rfl⟩) (by assumption) (by rfl) ?rest36
              try simp only [Act.put, List.setIfInBounds_toArray, List.set_cons_zero, List.set_cons_succ]
              refine takeD (i := 9) (v := undef) (some 68) rfl (by kernel_rfl) (by kernel_rfl) (by kernel_rfl) (fun _ _ _ h => h) (Or.inr ⟨by rfl, rfl⟩) (by assumption) (by rfl) ?rest37
              try simp only [Act.put, List.setIfInBounds_toArray, List.set_cons_zero, List.set_cons_succ]
              refine takeD (i := 10) (v := undef) (some 69) rfl (by kernel_rfl) (by kernel_rfl) (by kernel_rfl) (fun _ _ _ h => h) (Or.inr ⟨by rfl, rfl⟩) (by assumption) (by rfl) ?rest38
              try simp only [Act.put, List.setIfInBounds_toArray, List.set_cons_zero, List.set_cons_succ]
              refine takeD (i := 11) (v := undef) (some 70) rfl (by kernel_rfl) (by kernel_rfl) (by kernel_rfl) (fun _ _ _ h => h) (Or.inr ⟨by rfl, rfl⟩) (by assumption) (by rfl) ?rest39
              try simp only [Act.put, List.setIfInBounds_toArray, List.set_cons_zero, List.set_cons_succ]
              refine takeD (i := 12) (v := undef) (some 71) rfl (by kernel_rfl) (by kernel_rfl) (by kernel_rfl) (fun _ _ _ h => h) (Or.inr ⟨by rfl, rfl⟩) (by assumption) (by rfl) ?rest40
              try simp only [Act.put, List.setIfInBounds_toArray, List.set_cons_zero, List.set_cons_succ]
              refine takeD (i := 13) (v := ?v41) (some 72) rfl (by kernel_rfl) (by kernel_rfl) (by kernel_rfl) (fun _ _ _ h => h) (Or.inl ⟨by rfl, ?hy41⟩) (by assumption) (by rfl) ?rest41
              case hy41 => first | (intro w hSw; (try dsimp only at hSw); go_simp; done) | (intro w hSw; (try dsimp only at hSw); go_simp; with_reducible rfl)
              try simp only [Act.put, List.setIfInBounds_toArray, List.set_cons_zero, List.set_cons_succ]
              refine wpAnyH_done (by kernel_rfl) ?_ _
              clear hS0
              by_cases hle : ln = ll
              · have g2 := HC2.out hle
                subst hle
                have g1 : (ln == ln) = true := by simp
                have HFF := hide (show -1 ≤ un - 1 by have := HF.out; omega)
                clear HO1 HO2 f1 f2 f3 HC2
                go_wp2
                go_roundw
                case rel => exact ⟨k + 1, ln, un - 1, by omega, by go_num, .inr ⟨k, ln, un, i, j0, je, rfl, HS.out, rfl, by omega, HFF.out⟩, ((HBx2.out.set0 _).set1 _).set1 _, ((HOw2.out.other (by omega) _).other (by omega) _).other (by omega) _, (((HB2.out.setCell (p := ⟨WB.heap.size, 0, none⟩) (by simp) _).setCell (p := ⟨WB.heap.size, 1, none⟩) (by simp) _).setCell (p := ⟨WB.heap.size, 1, none⟩) (by simp) _).drew⟩
                case measure => simp [RowKit.intOf]; omega
              · have g1 : (ln == ll) = false := beq_eq_false_iff_ne.2 hle
                have HFF := hide (show -1 ≤ un - 1 by have := HF.out; omega)
                clear hle HO1 HO2 f1 f2 f3 HC2
                go_wp2
                go_roundw
                case rel => exact ⟨k + 1, ln, un - 1, by omega, by go_num, .inr ⟨k, ln, un, i, j0, je, rfl, HS.out, rfl, by omega, HFF.out⟩, ((HBx2.out.set0 _).set1 _).set1 _, ((HOw2.out.other (by omega) _).other (by omega) _).other (by omega) _, (((HB2.out.setCell (p := ⟨WB.heap.size, 0, none⟩) (by simp) _).setCell (p := ⟨WB.heap.size, 1, none⟩) (by simp) _).setCell (p := ⟨WB.heap.size, 1, none⟩) (by simp) _).drew⟩
                case measure => simp [RowKit.intOf]; omega
            · subst hR
              have q1 : ((13 : Int) == 10) = false := by decide
              have q2 : ((13 : Int) == 13) = true := by decide
              go_wp2
              refine wp_region_held_drew (S := fun X : World => X.cell? ⟨W1.heap.size, 0, none⟩ = some (.int .i64 ln) ∧ X.cell? ⟨W1.heap.size, 1, none⟩ = some (.int .i64 un) ∧ X.cell? ⟨lb, 3 * k, none⟩ = some (.int .i64 (P : Int)) ∧ Below W2.heap.size W2 X) (by kernel_rfl) ⟨d0, d1, e0, (Below.refl _ _).drew⟩ (fun hS0 => ?_)
              try simp only [Act.put, List.setIfInBounds_toArray, List.set_cons_zero, List.set_cons_succ]
              refine takeD (i := 0) (v := ?v42) (some 59) rfl (by kernel_rfl) (by kernel_rfl) (by kernel_rfl) (fun _ _ _ h => h) (Or.inl ⟨by rfl, ?hy42⟩) (by assumption) (by rfl) ?rest42
              case hy42 => first | (intro w hSw; (try dsimp only at hSw); go_simp; done) | (intro w hSw; (try dsimp only at hSw); go_simp; with_reducible rfl)
              try simp only [Act.put, List.setIfInBounds_toArray, List.set_cons_zero, List.set_cons_succ]
              refine takeD (i := 1) (v := ?v43) (some 60) rfl (by kernel_rfl) (by kernel_rfl) (by kernel_rfl) (fun _ _ _ h => h) (Or.inl ⟨by rfl, ?hy43⟩) (by assumption) (by rfl) ?rest43
              case hy43 => first | (intro w hSw; (try dsimp only at hSw); go_simp; done) | (intro w hSw; (try dsimp only at hSw); go_simp; with_reducible rfl)
              try simp only [Act.put, List.setIfInBounds_toArray, List.set_cons_zero, List.set_cons_succ]
              refine takeD (i := 2) (v := ?v44) (some 61) rfl (by kernel_rfl) (by kernel_rfl) (by kernel_rfl) (fun _ _ _ h => h) (Or.inl ⟨by rfl, ?hy44⟩) (by assumption) (by rfl) ?rest44
              case hy44 => first | (intro w hSw; (try dsimp only at hSw); go_simp; done) | (intro w hSw; (try dsimp only at hSw); go_simp; with_reducible rfl)
              try simp only [Act.put, List.setIfInBounds_toArray, List.set_cons_zero, List.set_cons_succ]
              refine takeD (i := 3) (v := undef) (some 62) rfl (by kernel_rfl) (by kernel_rfl) (by kernel_rfl) (fun _ _ _ h => h) (Or.inr ⟨by rfl, rfl⟩) (by assumption) (by rfl) ?rest45
              try simp only [Act.put, List.setIfInBounds_toArray, List.set_cons_zero, List.set_cons_succ]
              refine takeD (i := 4) (v := undef) (some 63) rfl (by kernel_rfl) (by kernel_rfl) (by kernel_rfl) (fun _ _ _ h => h) (Or.inr ⟨by rfl, rfl⟩) (by assumption) (by rfl) ?rest46
              try simp only [Act.put, List.setIfInBounds_toArray, List.set_cons_zero, List.set_cons_succ]
              refine takeD (i := 5) (v := undef) (some 64) rfl (by kernel_rfl) (by kernel_rfl) (by kernel_rfl) (fun _ _ _ h => h) (Or.inr ⟨by rfl, rfl⟩) (by assumption) (by rfl) ?rest47
              try simp only [Act.put, List.setIfInBounds_toArray, List.set_cons_zero, List.set_cons_succ]
              refine takeD (i := 6) (v := undef) (some 65) rfl (by kernel_rfl) (by kernel_rfl) (by kernel_rfl) (fun _ _ _ h => h) (Or.inr ⟨by rfl, rfl⟩) (by assumption) (by rfl) ?rest48
              try simp only [Act.put, List.setIfInBounds_toArray, List.set_cons_zero, List.set_cons_succ]
              refine takeD (i := 7) (v := undef) (some 66) rfl (by kernel_rfl) (by kernel_rfl) (by kernel_rfl) (fun _ _ _ h => h) (Or.inr ⟨by rfl, rfl⟩) (by assumption) (by rfl) ?rest49
              try simp only [Act.put, List.setIfInBounds_toArray, List.set_cons_zero, List.set_cons_succ]
              refine takeD (i := 8) (v := undef) (some 67) rfl (by kernel_rfl) (by kernel_rfl) (by kernel_rfl) (fun _ _ _ h => h) (Or.inr ⟨by rfl, rfl⟩) (by assumption) (by rfl) ?rest50
              try simp only [Act.put, List.setIfInBounds_toArray, List.set_cons_zero, List.set_cons_succ]
              refine takeD (i := 9) (v := undef) (some 68) rfl (by kernel_rfl) (by kernel_rfl) (by kernel_rfl) (fun _ _ _ h => h) (Or.inr ⟨by rfl, rfl⟩) (by assumption) (by rfl) ?rest51
              try simp only [Act.put, List.setIfInBounds_toArray, List.set_cons_zero, List.set_cons_succ]
              refine takeD (i := 10) (v := undef) (some 69) rfl (by kernel_rfl) (by kernel_rfl) (by kernel_rfl) (fun _ _ _ h => h) (Or.inr ⟨by rfl, rfl⟩) (by assumption) (by rfl) ?rest52
              try simp only [Act.put, List.setIfInBounds_toArray, List.set_cons_zero, List.set_cons_succ]
              refine takeD (i := 11) (v := undef) (some 70) rfl (by kernel_rfl) (by kernel_rfl) (by kernel_rfl) (fun _ _ _ h => h) (Or.inr ⟨by rfl, rfl⟩) (by assumption) (by rfl) ?rest53
              try simp only [Act.put, List.setIfInBounds_toArray, List.set_cons_zero, List.set_cons_succ]
              refine takeD (i := 12) (v := undef) (some 71) rfl (by kernel_rfl) (by kernel_rfl) (by kernel_rfl) (fun _ _ _ h => h) (Or.inr ⟨by rfl, rfl⟩) (by assumption) (by rfl) ?rest54
              try simp only [Act.put, List.setIfInBounds_toArray, List.set_cons_zero, List.set_cons_succ]
              refine takeD (i := 13) (v := ?v55) (some 72) rfl (by kernel_rfl) (by kernel_rfl) (by kernel_rfl) (fun _ _ _ h => h) (Or.inl ⟨by rfl, ?hy55⟩) (by assumption) (by rfl) ?rest55
              case hy55 => first | (intro w hSw; (try dsimp only at hSw); go_simp; done) | (intro w hSw; (try dsimp only at hSw); go_simp; with_reducible rfl)
              try simp only [Act.put, List.setIfInBounds_toArray, List.set_cons_zero, List.set_cons_succ]
              refine wpAnyH_done (by kernel_rfl) ?_ _
              clear hS0
              by_cases hle : ln = ll
              · have g2 := HC2.out hle
                subst hle
                have g1 : (ln == ln) = true := by simp
                have HFF := hide (show -1 ≤ un - 1 by have := HF.out; omega)
                clear HO1 HO2 f1 f2 f3 HC2
                go_wp2
                go_roundw
                case rel => exact ⟨k + 1, ln, un - 1, by omega, by go_num, .inr ⟨k, ln, un, i, j0, je, rfl, HS.out, rfl, by omega, HFF.out⟩, ((HBx2.out.set0 _).set1 _).set1 _, ((HOw2.out.other (by omega) _).other (by omega) _).other (by omega) _, (((HB2.out.setCell (p := ⟨WB.heap.size, 0, none⟩) (by simp) _).setCell (p := ⟨WB.heap.size, 1, none⟩) (by simp) _).setCell (p := ⟨WB.heap.size, 1, none⟩) (by simp) _).drew⟩
                case measure => simp [RowKit.intOf]; omega
              · have g1 : (ln == ll) = false := beq_eq_false_iff_ne.2 hle
                have HFF := hide (show -1 ≤ un - 1 by have := HF.out; omega)
                clear hle HO1 HO2 f1 f2 f3 HC2
                go_wp2
                go_roundw
                case rel => exact ⟨k + 1, ln, un - 1, by omega, by go_num, .inr ⟨k, ln, un, i, j0, je, rfl, HS.out, rfl, by omega, HFF.out⟩, ((HBx2.out.set0 _).set1 _).set1 _, ((HOw2.out.other (by omega) _).other (by omega) _).other (by omega) _, (((HB2.out.setCell (p := ⟨WB.heap.size, 0, none⟩) (by simp) _).setCell (p := ⟨WB.heap.size, 1, none⟩) (by simp) _).setCell (p := ⟨WB.heap.size, 1, none⟩) (by simp) _).drew⟩
                case measure => simp [RowKit.intOf]; omega
          · have hn10 : (R == 10) = false := beq_eq_false_iff_ne.2 (fun g => hend (.inl g))
            have hn13 : (R == 13) = false := beq_eq_false_iff_ne.2 (fun g => hend (.inr g))
            have HIn := hide (HInn.out (not_or.1 hend))
            clear hend HInn
            go_wp2
            refine wp_region_held_drew (S := fun X : World => X.cell? ⟨W1.heap.size, 0, none⟩ = some (.int .i64 ln) ∧ X.cell? ⟨W1.heap.size, 1, none⟩ = some (.int .i64 un) ∧ X.cell? ⟨lb, 3 * k, none⟩ = some (.int .i64 (P : Int)) ∧ Below W2.heap.size W2 X) (by kernel_rfl) ⟨d0, d1, e0, (Below.refl _ _).drew⟩ (fun hS0 => ?_)
            try simp only [Act.put, List.setIfInBounds_toArray, List.set_cons_zero, List.set_cons_succ]
            refine takeD (i := 0) (v := ?v15) (some 59) rfl (by kernel_rfl) (by kernel_rfl) (by kernel_rfl) (fun _ _ _ h => h) (Or.inl ⟨by rfl, ?hy15⟩) (by assumption) (by rfl) ?rest15
            case hy15 => first | (intro w hSw; (try dsimp only at hSw); go_simp; done) | (intro w hSw; (try dsimp only at hSw); go_simp; with_reducible rfl)
            try simp only [Act.put, List.setIfInBounds_toArray, List.set_cons_zero, List.set_cons_succ]
            refine takeD (i := 1) (v := ?v16) (some 60) rfl (by kernel_rfl) (by kernel_rfl) (by kernel_rfl) (fun _ _ _ h => h) (Or.inl ⟨by rfl, ?hy16⟩) (by assumption) (by rfl) ?rest16
            case hy16 => first | (intro w hSw; (try dsimp only at hSw); go_simp; done) | (intro w hSw; (try dsimp only at hSw); go_simp; with_reducible rfl)
            try simp only [Act.put, List.setIfInBounds_toArray, List.set_cons_zero, List.set_cons_succ]
            refine takeD (i := 2) (v := ?v17) (some 61) rfl (by kernel_rfl) (by kernel_rfl) (by kernel_rfl) (fun _ _ _ h => h) (Or.inl ⟨by rfl, ?hy17⟩) (by assumption) (by rfl) ?rest17
            case hy17 => first | (intro w hSw; (try dsimp only at hSw); go_simp; done) | (intro w hSw; (try dsimp only at hSw); go_simp; with_reducible rfl)
            try simp only [Act.put, List.setIfInBounds_toArray, List.set_cons_zero, List.set_cons_succ]
            refine takeD (i := 3) (v := ?v18) (some 62) rfl (by kernel_rfl) (by kernel_rfl) (by kernel_rfl) (fun _ _ _ h => h) (Or.inl ⟨by rfl, ?hy18⟩) (by assumption) (by rfl) ?rest18
            case hy18 => first | (intro w hSw; (try dsimp only at hSw); go_simp; done) | (intro w hSw; (try dsimp only at hSw); go_simp; with_reducible rfl)
            try simp only [Act.put, List.setIfInBounds_toArray, List.set_cons_zero, List.set_cons_succ]
            refine takeD (i := 4) (v := ?v19) (some 63) rfl (by kernel_rfl) (by kernel_rfl) (by kernel_rfl) (fun _ _ _ h => h) (Or.inl ⟨by rfl, ?hy19⟩) (by assumption) (by rfl) ?rest19
            case hy19 => first | (intro w hSw; (try dsimp only at hSw); go_simp; done) | (intro w hSw; (try dsimp only at hSw); go_simp; with_reducible rfl)
            try simp only [Act.put, List.setIfInBounds_toArray, List.set_cons_zero, List.set_cons_succ]
            refine takeD (i := 5) (v := ?v20) (some 64) rfl (by kernel_rfl) (by kernel_rfl) (by kernel_rfl) (fun _ _ _ h => h) (Or.inl ⟨by rfl, ?hy20⟩) (by assumption) (by rfl) ?rest20
            case hy20 => first | (intro w hSw; (try dsimp only at hSw); go_simp; done) | (intro w hSw; (try dsimp only at hSw); go_simp; with_reducible rfl)
            try simp only [Act.put, List.setIfInBounds_toArray, List.set_cons_zero, List.set_cons_succ]
            refine takeD (i := 7) (v := ?v21) (some 66) rfl (by kernel_rfl) (by kernel_rfl) (by kernel_rfl) (fun _ _ _ h => h) (Or.inl ⟨by rfl, ?hy21⟩) (by assumption) (by rfl) ?rest21
            case hy21 => first | (intro w hSw; (try dsimp only at hSw); go_simp; done) | (intro w hSw; (try dsimp only at hSw); go_simp; with_reducible rfl)
            try simp only [Act.put, List.setIfInBounds_toArray, List.set_cons_zero, List.set_cons_succ]
            refine takeD (i := 8) (v := ?v22) (some 67) rfl (by kernel_rfl) (by kernel_rfl) (by kernel_rfl) (fun _ _ _ h => h) (Or.inl ⟨by rfl, ?hy22⟩) (by assumption) (by rfl) ?rest22
            case hy22 => first | (intro w hSw; (try dsimp only at hSw); go_simp; done) | (intro w hSw; (try dsimp only at hSw); go_simp; with_reducible rfl)
            try simp only [Act.put, List.setIfInBounds_toArray, List.set_cons_zero, List.set_cons_succ]
            refine takeD (i := 9) (v := ?v23) (some 68) rfl (by kernel_rfl) (by kernel_rfl) (by kernel_rfl) (fun _ _ _ h => h) (Or.inl ⟨by rfl, ?hy23⟩) (by assumption) (by rfl) ?rest23
            case hy23 => first | (intro w hSw; (try dsimp only at hSw); go_simp; done) | (intro w hSw; (try dsimp only at hSw); go_simp; with_reducible rfl)
            try simp only [Act.put, List.setIfInBounds_toArray, List.set_cons_zero, List.set_cons_succ]
            refine takeD (i := 10) (v := ?v24) (some 69) rfl (by kernel_rfl) (by kernel_rfl) (by kernel_rfl) (fun _ _ _ h => h) (Or.inl ⟨by rfl, ?hy24⟩) (by assumption) (by rfl) ?rest24
            case hy24 => first | (intro w hSw; (try dsimp only at hSw); go_simp; done) | (intro w hSw; (try dsimp only at hSw); go_simp; with_reducible rfl)
            try simp only [Act.put, List.setIfInBounds_toArray, List.set_cons_zero, List.set_cons_succ]
            refine takeD (i := 11) (v := ?v25) (some 70) rfl (by kernel_rfl) (by kernel_rfl) (by kernel_rfl) (fun _ _ _ h => h) (Or.inl ⟨by rfl, ?hy25⟩) (by assumption) (by rfl) ?rest25
            case hy25 => first | (intro w hSw; (try dsimp only at hSw); go_simp; done) | (intro w hSw; (try dsimp only at hSw); go_simp; with_reducible rfl)
            try simp only [Act.put, List.setIfInBounds_toArray, List.set_cons_zero, List.set_cons_succ]
            refine wpAnyH_ready (rs := [6]) (by kernel_rfl) (by simp) ?_
            refine AllReadyH.cons rfl (fun K hK => ?_) AllReadyH.nil
            go_simp
            refine (offset_calls _ ao cap T _ (linesL T) ln un (HT2.out.below hS0.2.2.2) (HLn2.out.below hS0.2.2.2) (HK2.out.below hS0.2.2.2) (by omega)).mono ?_
            rintro e X1 ⟨r, rfl, hr, hx1⟩
            obtain rfl : r = (P : Int) := by have := stands_back HSm.out N1.out N2.out HV.out hlt HS.out HIn.out hr; rw [HP.out] at this; exact this
            have hS1 : (fun X : World => X.cell? ⟨W1.heap.size, 0, none⟩ = some (.int .i64 ln) ∧ X.cell? ⟨W1.heap.size, 1, none⟩ = some (.int .i64 un) ∧ X.cell? ⟨lb, 3 * k, none⟩ = some (.int .i64 (P : Int)) ∧ Below W2.heap.size W2 X) X1 := ⟨(hx1.cell (p := ⟨W1.heap.size, 0, none⟩) (block_lt hS0.1)).trans hS0.1, (hx1.cell (p := ⟨W1.heap.size, 1, none⟩) (block_lt hS0.2.1)).trans hS0.2.1, (hx1.cell (p := ⟨lb, 3 * k, none⟩) (block_lt hS0.2.2.1)).trans hS0.2.2.1, bafter hS0.2.2.2 hx1 (Nat.le_refl _)⟩
            clear hS0 hx1 hr
            go_wp2_with fail
            refine hK.out _ _ hS1 (fun _ => ?_)
            clear hK K
            try simp only [Act.put, List.setIfInBounds_toArray, List.set_cons_zero, List.set_cons_succ]
            refine takeD (i := 12) (v := ?v26) (some 71) rfl (by kernel_rfl) (by kernel_rfl) (by kernel_rfl) (fun _ _ _ h => h) (Or.inl ⟨by rfl, ?hy26⟩) (by assumption) (by rfl) ?rest26
            case hy26 => first | (intro w hSw; (try dsimp only at hSw); go_simp; done) | (intro w hSw; (try dsimp only at hSw); go_simp; with_reducible rfl)
            try simp only [Act.put, List.setIfInBounds_toArray, List.set_cons_zero, List.set_cons_succ]
            refine takeD (i := 13) (v := ?v27) (some 72) rfl (by kernel_rfl) (by kernel_rfl) (by kernel_rfl) (fun _ _ _ h => h) (Or.inl ⟨by rfl, ?hy27⟩) (by assumption) (by rfl) ?rest27
            case hy27 => first | (intro w hSw; (try dsimp only at hSw); go_simp; done) | (intro w hSw; (try dsimp only at hSw); go_simp; with_reducible rfl)
            try simp only [Act.put, List.setIfInBounds_toArray, List.set_cons_zero, List.set_cons_succ]
            refine wpAnyH_done (by kernel_rfl) ?_ _
            have HX := hide hS1.2.2.2
            have x0 := hS1.1
            have x1 := hS1.2.1
            clear hS1
            have HBx3 := hide (HBx2.out.below HX.out)
            have HOw3 := hide (HOw2.out.keep HX.out)
            have HB3 := hide (bafter HB2.out HX.out (Nat.le_refl _))
            have f60 := HBx3.out.frozen0
            have f61 := HBx3.out.frozen1
            have y0 := HBx3.out.cell0
            have y1 := HBx3.out.cell1
            have hc1 : ¬ ln < ll := by have := HO1.out; omega
            by_cases hle : ln = ll
            · have hlt2 : lu < un := (HO2.out hle).2 HIn.out
              subst hle
              have g1 : (ln == ln) = true := by simp
              have g2 : ¬ un < lu := by omega
              have g3 : (un == lu) = false := beq_eq_false_iff_ne.2 (by omega)
              have HFF := hide (show -1 ≤ un by omega)
              clear hlt2 HO1 HO2 f1 f2 f3
              go_wp2
              go_roundw
              case rel => exact ⟨k + 1, ln, un, by omega, by go_num, .inr ⟨k, ln, un, i, j0, je, rfl, HS.out, rfl, Int.le_refl _, HFF.out⟩, (HBx3.out.set0 _).set1 _, (HOw3.out.other (by omega) _).other (by omega) _, (HB3.out.setCell (p := ⟨WB.heap.size, 0, none⟩) (by simp) _).setCell (p := ⟨WB.heap.size, 1, none⟩) (by simp) _⟩
              case measure => simp [RowKit.intOf]; omega
            · have g1 : (ln == ll) = false := beq_eq_false_iff_ne.2 hle
              have HFF := hide (show -1 ≤ un by omega)
              clear hle HO1 HO2 f1 f2 f3
              go_wp2
              go_roundw
              case rel => exact ⟨k + 1, ln, un, by omega, by go_num, .inr ⟨k, ln, un, i, j0, je, rfl, HS.out, rfl, Int.le_refl _, HFF.out⟩, (HBx3.out.set0 _).set1 _, (HOw3.out.other (by omega) _).other (by omega) _, (HB3.out.setCell (p := ⟨WB.heap.size, 0, none⟩) (by simp) _).setCell (p := ⟨WB.heap.size, 1, none⟩) (by simp) _⟩
              case measure => simp [RowKit.intOf]; omega
        · obtain rfl : k = N := by omega
          have d1 : ¬ (k : Int) < (k : Int) := by omega
          clear hla hbx how hB
          go_wp2
          go_ret
          exact ⟨rfl, bafter KB.out HB.out (Nat.le_refl _)⟩
    · have z1 : (e1 != 0) = true := by simp [he]
      clear he HT1 H2
      go_wp2
      go_ret
      exact ⟨rfl, KB2.out⟩
  · have hl' : (T.length : Int) > 400 := by omega
    go_enter Tryd.func8, Tryd.ntmps8
    go_wp2_with fail
    refine (lettered_calls _ HK.out).mono ?_
    rintro e W1 ⟨rfl, hb1⟩
    have KB1 := hide hb1
    clear hb1
    go_wp2_with fail
    refine (lettered_calls _ (HK.out.below KB1.out)).mono ?_
    rintro e W2 ⟨rfl, hb2⟩
    have KB2 := hide (bafter KB1.out hb2 (Nat.le_refl _))
    clear hb2
    go_wp2
    go_ret
    exact ⟨rfl, KB2.out⟩

end Go.Proofs.YtchpnbcagbjnnaaDoor
