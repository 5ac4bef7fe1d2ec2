/- Frame: the reference's length of a line. -/
import Derived.Test.YtnflbplhokodjaaDoorFLen
import Derived.BigQuiet
import Derived.Deep.QuietTactic
import Derived.Test.YtnflbplhokodjaaDoorFRefM
namespace Go.Proofs.YtnflbplhokodjaaDoor
set_option linter.unusedVariables false
set_option linter.unusedSimpArgs false
set_option maxRecDepth 100000
open Go Go.RowKit Go.Shelf Go.Lib

theorem bdrewK {n : Nat} {w W : World} (h : Below n w W) (k : Nat) : Below n w (W.drewN k) := by
  induction k with
  | zero => exact h
  | succ k ih => exact ih.drew
set_option maxHeartbeats 4000000 in
theorem low_calls (w : World) (x : Nat) (hx : x < 256) : Calls Tryd.prog 25 #[.int .u8 (x : Int)] w fun e w' => e = .returned (.int .u8 ((lowL x : Nat) : Int)) ∧ w' = w := by
  by_cases h1 : 65 ≤ x
  · have d1 : (65 : Int) ≤ (x : Int) := by omega
    by_cases h2 : x ≤ 90
    · have d2 : (x : Int) ≤ 90 := by omega
      have hl : lowL x = x + 32 := if_pos ⟨h1, h2⟩
      rw [hl]
      obtain ⟨y, hy⟩ : ∃ y, x - 65 = y := ⟨_, rfl⟩
      obtain ⟨z, hz⟩ : ∃ z, x + 32 = z := ⟨_, rfl⟩
      rw [hz]
      have f1 : (x : Int) - 65 = (y : Int) := by omega
      have f2 : IntKind.u8.wrap (y : Int) = (y : Int) := by rw [IntKind.wrap_u8]; omega
      have f3 : (y : Int) + 97 = (z : Int) := by omega
      have f4 : IntKind.u8.wrap (z : Int) = (z : Int) := by rw [IntKind.wrap_u8]; omega
      clear h1 h2 hl hy hz
      go_enter Tryd.func25, Tryd.ntmps25
      go_wp2
      go_ret
      exact ⟨rfl, rfl⟩
    · have d2 : ¬ (x : Int) ≤ 90 := by omega
      have hl : lowL x = x := if_neg (by omega)
      rw [hl]
      clear h1 h2 hl
      go_enter Tryd.func25, Tryd.ntmps25
      go_wp2
      go_ret
      exact ⟨rfl, rfl⟩
  · have d1 : ¬ (65 : Int) ≤ (x : Int) := by omega
    have hl : lowL x = x := if_neg (by omega)
    rw [hl]
    clear h1 hl
    go_enter Tryd.func25, Tryd.ntmps25
    go_wp2
    go_ret
    exact ⟨rfl, rfl⟩

def nameStr : ByteArray := ⟨#[99, 111, 110, 116, 101, 110, 116, 45, 108, 101, 110, 103, 116, 104]⟩
theorem name_at : ∀ i : Fin 14, (nameStr[i.val]'(i.isLt)).toNat = nth lenName i.val := by decide
theorem name_index (W : World) {i : Nat} (hi : i < 14) : (Instr.index 9 (.string ⟨#[99, 111, 110, 116, 101, 110, 116, 45, 108, 101, 110, 103, 116, 104]⟩) (.int .i64 (i : Int))).run Tryd.prog W = .ok (.int .u8 ((nth lenName i : Nat) : Int)) W := by
  show (Instr.index 9 (.string nameStr) (.int .i64 (i : Int))).run Tryd.prog W = _
  rw [run_index_string W 9 nameStr .i64 (i : Int) (by kernel_rfl), dif_pos ⟨by omega, by show (i : Int) < 14; omega⟩]
  have := name_at ⟨i, hi⟩
  simp only [Int.toNat_natCast]
  rw [← this]
  rfl

theorem drop_at {L : List Nat} {i : Nat} (h : i < L.length) : L.drop i = nth L i :: L.drop (i + 1) := by
  rw [List.drop_eq_getElem_cons h]
  simp [nth, h]
theorem rwhile_take (p : Nat → Bool) (l : List Nat) : l.takeWhile p = l.take (l.takeWhile p).length := by
  induction l with
  | nil => rfl
  | cons x l ih =>
    by_cases h : p x = true
    · rw [List.takeWhile_cons_of_pos h, List.length_cons, List.take_succ_cons, ← ih]
    · rw [List.takeWhile_cons_of_neg h]; rfl
def colon : Nat → Bool := fun x => decide (x ≠ 58)
/-- What the reference answers of a line. -/
def rlenL (L : List Nat) : Nat × Nat :=
  if (L.takeWhile (· ≠ 58)).length = L.length ∨ (L.takeWhile (· ≠ 58)).length = 0 then (0, 2)
  else if isLenL (L.takeWhile (· ≠ 58)) = false then (0, 0)
  else match lengthL (L.drop ((L.takeWhile (· ≠ 58)).length + 1)) with
    | none => (0, 2)
    | some n => (n, 1)
theorem rlen_bad {L : List Nat} {k : Nat} (hk : (L.takeWhile (· ≠ 58)).length = k) (h : k = L.length ∨ k = 0) : rlenL L = (0, 2) := by
  unfold rlenL; rw [hk, if_pos h]
theorem rlen_else {L : List Nat} {k : Nat} (hk : (L.takeWhile (· ≠ 58)).length = k) (h : ¬ (k = L.length ∨ k = 0)) (h2 : isLenL (L.takeWhile (· ≠ 58)) = false) : rlenL L = (0, 0) := by
  unfold rlenL; rw [hk, if_neg h, if_pos h2]
theorem rlen_is {L : List Nat} {k : Nat} (hk : (L.takeWhile (· ≠ 58)).length = k) (h : ¬ (k = L.length ∨ k = 0)) (h2 : isLenL (L.takeWhile (· ≠ 58)) = true) : rlenL L = match lengthL (L.drop (k + 1)) with
    | none => (0, 2)
    | some n => (n, 1) := by
  unfold rlenL; rw [hk, if_neg h, if_neg (by rw [h2]; decide)]
theorem rlen_lt (L : List Nat) : (rlenL L).1 < 10000000000 := by
  unfold rlenL
  split
  · decide
  · split
    · decide
    · cases h : lengthL (L.drop ((L.takeWhile (· ≠ 58)).length + 1)) with
      | none => decide
      | some n => exact length_lt h
theorem isLen_len {T : List Nat} (h : T.length ≠ 14) : isLenL T = false := by
  unfold isLenL
  apply Bool.eq_false_iff.2
  intro q
  have := congrArg List.length (eq_of_beq q)
  rw [List.length_map] at this
  exact h this
def RLenR (L : List Nat) (e : Ending) : Prop := e = .returned (.tuple #[.int .i64 ((rlenL L).1 : Int), .int .i64 ((rlenL L).2 : Int)])
theorem RLenR.of {L : List Nat} {a b : Nat} (h : rlenL L = (a, b)) : RLenR L (.returned (.tuple #[.int .i64 (a : Int), .int .i64 (b : Int)])) := by unfold RLenR; rw [h]

set_option maxHeartbeats 16000000 in
theorem rlength_calls (w : World) (ao : Option Addr) (cap : Nat) (L : List Nat) (h : Byts w (.slice ao L.length cap) L) (hlen : L.length ≤ 1000000) :
    Calls Tryd.prog 20 #[.slice ao L.length cap] w fun e w' => RLenR L e ∧ Below w.heap.size w w' := by
  have HS : Hid (∀ j, nth L j < 256) := fun j => nth_lt h.small j
  have HC : Hid (∀ (W : World), Below w.heap.size w W → ∀ j, j < L.length → ∃ b off, ao = some ⟨b, off, none⟩ ∧ W.cell? ⟨b, off + j, none⟩ = some (.int .u8 (nth L j : Int))) := fun W hW j hj => by
    obtain ⟨ao', c', e', hb, hc⟩ := h.below hW
    cases e'
    exact hc j hj
  clear h
  have HDR : Hid (∀ j, j < L.length → L.drop j = nth L j :: L.drop (j + 1)) := fun j hj => drop_at hj
  have HBAD := hide (fun k h1 h2 => RLenR.of (rlen_bad (L := L) (k := k) h1 h2))
  have HELS := hide (fun k h1 h2 h3 => RLenR.of (rlen_else (L := L) (k := k) h1 h2 h3))
  have HIS := hide (fun k h1 h2 h3 => rlen_is (L := L) (k := k) h1 h2 h3)
  have HDE : Hid (L.drop L.length = []) := List.drop_length
  have HDL : Hid (∀ s, (L.drop s).length = L.length - s) := fun s => List.length_drop
  generalize hn : L.length = n at *
  clear hn
  go_enter Tryd.func20, Tryd.ntmps20
  go_wp2
  go_loopw [4] (fun iv wr => ∃ k : Nat, k ≤ n ∧ iv = .int .i64 (k : Int) ∧ (L.takeWhile (· ≠ 58)).length = k + ((L.drop k).takeWhile (· ≠ 58)).length ∧ wr = w) (fun iv _ => n - (RowKit.intOf iv).toNat)
  case atStart => exact ⟨0, Nat.zero_le _, rfl, by simp, rfl⟩
  case round =>
    obtain ⟨k, hk, rfl, hnm, hwr⟩ := hrel
    rw [hwr]
    clear hwr
    have HNM := hide hnm
    clear hnm
    by_cases hlt : k < n
    · obtain ⟨b, off, rfl, hcell⟩ := HC.out w (Below.refl _ _) k hlt
      have hx := HS.out k
      have HD := hide (HDR.out k hlt)
      generalize hxx : nth L k = x at *
      have HXX := hide hxx
      clear hxx
      have d1 : (k : Int) < (n : Int) := by omega
      have d0 : (0 : Int) ≤ (k : Int) := by omega
      have HLT := hide hlt
      by_cases h58 : x = 58
      · -- the colon
        subst h58
        have HK : Hid ((L.takeWhile (· ≠ 58)).length = k) := by
          show _ = _
          rw [HNM.out, HD.out]
          simp
        have dn : ((k : Int) == (n : Int)) = false := beq_eq_false_iff_ne.2 (by omega)
        by_cases hk0 : k = 0
        · have dk : ((k : Int) == 0) = true := beq_iff_eq.2 (by omega)
          have HR := hide (HBAD.out k HK.out (.inr hk0))
          clear hk0 hlt hk
          go_wp2
          go_ret2
          exact ⟨HR.out, Below.refl _ _⟩
        · have dk : ((k : Int) == 0) = false := beq_eq_false_iff_ne.2 (by omega)
          have HNO : Hid (¬ (k = n ∨ k = 0)) := show ¬ _ by omega
          by_cases h14 : k = 14
          · subst h14
            have HNT : Hid (L.takeWhile (· ≠ 58) = L.take 14) := by show _ = _; rw [rwhile_take, HK.out]
            have HTL : Hid ((L.take 14).length = 14) := by show _ = _; rw [← HNT.out, HK.out]
            have h15 : 15 ≤ n := by omega
            have dn14 : ((14 : Int) == (n : Int)) = false := beq_eq_false_iff_ne.2 (by omega)
            clear hk0 hlt hk HD HXX HNM HLT hx
            go_wp2
            clear dn dk d1 d0 hcell dn14
            go_loopw [6] (fun iv wr => ∃ i : Nat, i ≤ 14 ∧ iv = .int .i64 (i : Int) ∧ isLenL (L.take 14) = (((L.take 14).drop i).map lowL == lenName.drop i) ∧ Below w.heap.size w wr) (fun iv _ => 14 - (RowKit.intOf iv).toNat)
            case atStart => exact ⟨0, Nat.zero_le _, rfl, rfl, Below.refl _ _⟩
            case round =>
              obtain ⟨i, hi, rfl, hEq, hbr⟩ := hrel
              have HEQ := hide hEq
              have HBR := hide hbr
              clear hEq hbr
              by_cases hi14 : i < 14
              · obtain ⟨b, off, hbo, hcell⟩ := HC.out wr HBR.out i (by omega)
                cases hbo
                have hx := HS.out i
                have q1 := fun W : World => name_index W hi14
                have HD1 : Hid ((L.take 14).drop i = nth L i :: (L.take 14).drop (i + 1)) := by
                  show _ = _
                  rw [drop_at (by rw [HTL.out]; exact hi14), nth_take hi14]
                have HD2 : Hid (lenName.drop i = nth lenName i :: lenName.drop (i + 1)) := drop_at hi14
                have HLW := hide (fun W : World => low_calls W (nth L i) hx)
                have d1 : (i : Int) < 14 := by omega
                have d0 : (0 : Int) ≤ (i : Int) := by omega
                have dn : (i : Int) < (n : Int) := by omega
                have HI := hide hi14
                clear hi14 hi
                generalize nth lenName i = y at *
                generalize nth L i = x at *
                by_cases hxy : lowL x = y
                · have exy : (((lowL x : Nat) : Int) != (y : Int)) = false := by rw [hxy]; simp
                  have HN : Hid (isLenL (L.take 14) = (((L.take 14).drop (i + 1)).map lowL == lenName.drop (i + 1))) := by
                    show _ = _
                    rw [HEQ.out, HD1.out, HD2.out, List.map_cons, hxy]
                    simp
                  clear hxy hx
                  generalize lowL x = lx at *
                  go_wp2
                  go_quiet (first | (go_at_call 25; refine Calls.quiet_of_same (HLW.out _)))
                  go_wp2
                  go_roundw
                  case rel => exact ⟨i + 1, HI.out, by go_num, HN.out, by first | exact HBR.out | (rename_i mm; exact bdrewK HBR.out mm) | exact bdrewK HBR.out _⟩
                  case measure => have := HI.out; simp [RowKit.intOf]; omega
                · have exy : (((lowL x : Nat) : Int) != (y : Int)) = true := by simp; omega
                  have HN : Hid (isLenL (L.take 14) = false) := by
                    show _ = _
                    rw [HEQ.out, HD1.out, HD2.out, List.map_cons]
                    simp [hxy]
                  have HR := hide (HELS.out 14 HK.out HNO.out (by rw [HNT.out]; exact HN.out))
                  clear hxy hx
                  generalize lowL x = lx at *
                  go_wp2
                  go_quiet (first | (go_at_call 25; refine Calls.quiet_of_same (HLW.out _)))
                  go_wp2
                  go_ret2
                  exact ⟨HR.out, bdrewK HBR.out _⟩
              · obtain rfl : i = 14 := by omega
                rw [show ((14 : Nat) : Int) = 14 from rfl]
                have HYES : Hid (isLenL (L.take 14) = true) := by
                  show _ = _
                  rw [HEQ.out, List.drop_of_length_le (by rw [HTL.out]; exact Nat.le_refl _)]
                  rfl
                have HR := hide (HIS.out 14 HK.out HNO.out (by rw [HNT.out]; exact HYES.out))
                clear hi14 hi HEQ HNT HELS HBAD HYES HNO HK HTL
                have HC2 : Hid (∀ j, j < n → ∃ b2 off2, some (⟨b, off, none⟩ : Addr) = some ⟨b2, off2, none⟩ ∧ wr.cell? ⟨b2, off2 + j, none⟩ = some (.int .u8 (nth L j : Int))) := HC.out wr HBR.out
                clear HC
                generalize wr = w2 at *
                go_wp2
                go_loopw [7] (fun iv wq => ∃ s : Nat, 15 ≤ s ∧ s ≤ n ∧ iv = .int .i64 (s : Int) ∧ (L.drop 15).dropWhile blankF = (L.drop s).dropWhile blankF ∧ wq = w2) (fun iv _ => n - (RowKit.intOf iv).toNat)
                case atStart => exact ⟨15, Nat.le_refl _, h15, rfl, rfl, rfl⟩
                case round =>
                  obtain ⟨s, hs15, hsn, rfl, hdw, hwr⟩ := hrel
                  rw [hwr]
                  clear hwr
                  have HDW0 := hide hdw
                  clear hdw
                  by_cases hsl : s < n
                  · obtain ⟨b2, off2, hbo, hcell⟩ := HC2.out s hsl
                    cases hbo
                    have hx := HS.out s
                    have HD := hide (HDR.out s hsl)
                    obtain ⟨x, hxs⟩ : ∃ x, nth L s = x := ⟨_, rfl⟩
                    have HXX := hide hxs
                    rw [hxs] at hcell hx
                    rw [hxs] at HD
                    clear hxs
                    have d1 : (s : Int) < (n : Int) := by omega
                    have d0 : (0 : Int) ≤ (s : Int) := by omega
                    have HSL : Hid (15 ≤ s + 1 ∧ s + 1 ≤ n ∧ s < n) := show _ ∧ _ ∧ _ by omega
                    by_cases hb32 : x = 32
                    · subst hb32
                      have HN : Hid ((L.drop 15).dropWhile blankF = (L.drop (s + 1)).dropWhile blankF) := by
                        show _ = _
                        rw [HDW0.out, HD.out]
                        rfl
                      clear hsl hsn hs15
                      go_wp2
                      go_roundw
                      case rel => exact ⟨s + 1, HSL.out.1, HSL.out.2.1, by go_num, HN.out, trivial⟩
                      case measure => have := HSL.out; simp [RowKit.intOf]; omega
                    · by_cases hb9 : x = 9
                      · subst hb9
                        have HN : Hid ((L.drop 15).dropWhile blankF = (L.drop (s + 1)).dropWhile blankF) := by
                          show _ = _
                          rw [HDW0.out, HD.out]
                          rfl
                        clear hsl hsn hs15
                        go_wp2
                        go_roundw
                        case rel => exact ⟨s + 1, HSL.out.1, HSL.out.2.1, by go_num, HN.out, trivial⟩
                        case measure => have := HSL.out; simp [RowKit.intOf]; omega
                      · have g1 : ((x : Int) == 32) = false := beq_eq_false_iff_ne.2 (by omega)
                        have g2 : ((x : Int) == 9) = false := beq_eq_false_iff_ne.2 (by omega)
                        have HDW : Hid ((L.drop 15).dropWhile blankF = L.drop s) := by
                          show _ = _
                          rw [HDW0.out, HD.out]
                          have : blankF x = false := by simp [blankF]; omega
                          simp [List.dropWhile, this]
                        have HXS : Hid (nth L s ≠ 32 ∧ nth L s ≠ 9) := by show _ ∧ _; rw [HXX.out]; exact ⟨hb32, hb9⟩
                        have HTA : Hid (trimR (L.drop s) = trimR ((L.drop s).take (n - s))) := by
                          show _ = _
                          rw [List.take_of_length_le (by rw [HDL.out]; exact Nat.le_refl _)]
                        have hsb : s ≤ 1000000 := by omega
                        have HSN := hide hsl
                        clear HDW0 HD HXX hb32 hb9 hsn hs15
                        go_wp2
                        clear g1 g2 d1 d0 hcell hx
                        go_loopw [8] (fun iv wq => ∃ t : Nat, s < t ∧ t ≤ n ∧ iv = .int .i64 (t : Int) ∧ trimR (L.drop s) = trimR ((L.drop s).take (t - s)) ∧ wq = w2) (fun iv _ => (RowKit.intOf iv).toNat)
                        case atStart => exact ⟨n, HSN.out, Nat.le_refl _, rfl, HTA.out, rfl⟩
                        case round =>
                          obtain ⟨t, hst, htn, rfl, htr, hwr⟩ := hrel
                          rw [hwr]
                          clear hwr
                          obtain ⟨u, rfl⟩ : ∃ u, t = u + 1 := ⟨t - 1, by omega⟩
                          have HTR := hide htr
                          clear htr
                          obtain ⟨b2, off2, hbo, hcell⟩ := HC2.out u (by omega)
                          cases hbo
                          have hx := HS.out u
                          have HTS : Hid ((L.drop s).take (u + 1 - s) = (L.drop s).take (u - s) ++ [nth L u]) := by
                            show _ = _
                            have := take_snoc (T := L.drop s) (k := u - s) (by rw [HDL.out]; omega)
                            rw [show u + 1 - s = u - s + 1 by omega, this, nth_drop, show s + (u - s) = u by omega]
                          obtain ⟨x, hxu⟩ : ∃ x, nth L u = x := ⟨_, rfl⟩
                          have HXU := hide hxu
                          rw [hxu] at hcell hx
                          clear hxu
                          have d1 : (s : Int) < ((u + 1 : Nat) : Int) := by omega
                          have e1 : ((u + 1 : Nat) : Int) - 1 = (u : Int) := by omega
                          have d0 : (0 : Int) ≤ (u : Int) := by omega
                          have dn : (u : Int) < (n : Int) := by omega
                          by_cases hb32 : x = 32
                          · subst hb32
                            have hsu : s < u := by
                              rcases Nat.lt_or_ge s u with q | q
                              · exact q
                              · obtain rfl : s = u := by omega
                                exact absurd HXU.out HXS.out.1
                            have HN : Hid (trimR (L.drop s) = trimR ((L.drop s).take (u - s))) := by
                              show _ = _
                              rw [HTR.out, HTS.out, trimR_snoc, HXU.out]
                              rfl
                            have HSU := hide hsu
                            have HUN : Hid (u ≤ n) := show u ≤ n by omega
                            have hub : u ≤ 1000000 := by omega
                            clear hsu hst htn
                            go_wp2
                            go_roundw
                            case rel => exact ⟨u, HSU.out, HUN.out, by first | rfl | (congr 1; omega), HN.out, trivial⟩
                            case measure => simp [RowKit.intOf]
                          · by_cases hb9 : x = 9
                            · subst hb9
                              have hsu : s < u := by
                                rcases Nat.lt_or_ge s u with q | q
                                · exact q
                                · obtain rfl : s = u := by omega
                                  exact absurd HXU.out HXS.out.2
                              have HN : Hid (trimR (L.drop s) = trimR ((L.drop s).take (u - s))) := by
                                show _ = _
                                rw [HTR.out, HTS.out, trimR_snoc, HXU.out]
                                rfl
                              have HSU := hide hsu
                              have HUN : Hid (u ≤ n) := show u ≤ n by omega
                              have hub : u ≤ 1000000 := by omega
                              clear hsu hst htn
                              go_wp2
                              go_roundw
                              case rel => exact ⟨u, HSU.out, HUN.out, by first | rfl | (congr 1; omega), HN.out, trivial⟩
                              case measure => simp [RowKit.intOf]
                            · have g1 : ((x : Int) == 32) = false := beq_eq_false_iff_ne.2 (by omega)
                              have g2 : ((x : Int) == 9) = false := beq_eq_false_iff_ne.2 (by omega)
                              obtain ⟨D, hD⟩ : ∃ D, (L.drop s).take (u + 1 - s) = D := ⟨_, rfl⟩
                              obtain ⟨dl, hdl⟩ : ∃ dl, u + 1 - s = dl := ⟨_, rfl⟩
                              have HDN : Hid (D.length = dl) := by
                                show _ = _
                                rw [← hD, List.length_take, HDL.out]
                                omega
                              have HDX : Hid (∀ j, j < dl → nth D j = nth L (s + j)) := fun j hj => by rw [← hD, nth_take (by omega), nth_drop]
                              have HLV : Hid (lengthL (L.drop 15) = if dl = 0 ∨ 10 < dl then none else numF 0 D) := by
                                show _ = _
                                have ht : trimF (L.drop 15) = D := by
                                  rw [← trim_both, HDW.out, HTR.out, HTS.out, trimR_snoc, HXU.out, if_neg (by simp [blankF]; omega), ← hD, HTS.out, HXU.out]
                                unfold lengthL
                                rw [ht, HDN.out]
                              have eL : ((u + 1 : Nat) : Int) - (s : Int) = (dl : Int) := by omega
                              have hdl1 : ¬ (dl : Int) < 1 := by omega
                              clear hD HTR HTS HXU hb32 hb9 HDL
                              have hsz : s + dl = u + 1 := by omega
                              clear hdl
                              by_cases h10 : 10 < dl
                              · have e10 : (10 : Int) < (dl : Int) := by omega
                                have HQ : Hid (RLenR L (.returned (.tuple #[.int .i64 ((0 : Nat) : Int), .int .i64 ((2 : Nat) : Int)]))) := RLenR.of (by rw [HR.out]; rw [HLV.out, if_pos (.inr h10)])
                                have hdb : dl ≤ 1000000 := by omega
                                clear h10 hst htn hsz
                                go_wp2
                                go_ret2
                                exact ⟨HQ.out, HBR.out⟩
                              · have e10 : ¬ (10 : Int) < (dl : Int) := by omega
                                have hdl0 : 0 < dl := by omega
                                have HNUM : Hid (lengthL (L.drop 15) = numF 0 D) := by
                                  have := HLV.out
                                  rw [if_neg (by omega)] at this
                                  exact this
                                have hdl10 : dl ≤ 10 := by omega
                                clear HLV e10 h10
                                go_wp2
                                clear e1 eL
                                go_loopw [9, 10] (fun nv iv wq => ∃ j m : Nat, j ≤ dl ∧ iv = .int .i64 ((s + j : Nat) : Int) ∧ nv = .int .i64 (m : Int) ∧ m < 10 ^ j ∧ numF 0 D = numF m (D.drop j) ∧ wq = w2) (fun _ iv _ => u + 1 - (RowKit.intOf iv).toNat)
                                case atStart => exact ⟨0, 0, Nat.zero_le _, rfl, rfl, by decide, rfl, rfl⟩
                                case round =>
                                  obtain ⟨j, m, hj, rfl, rfl, hm, hnum, hwr⟩ := hrel
                                  rw [hwr]
                                  clear hwr
                                  have HM := hide hm
                                  have HNU := hide hnum
                                  clear hm hnum
                                  by_cases hjl : j < dl
                                  · obtain ⟨b2, off2, hbo, hcell⟩ := HC2.out (s + j) (by omega)
                                    cases hbo
                                    have hx := HS.out (s + j)
                                    have HDD : Hid (D.drop j = nth L (s + j) :: D.drop (j + 1)) := by
                                      show _ = _
                                      rw [drop_at (by rw [HDN.out]; exact hjl), HDX.out j hjl]
                                    generalize nth L (s + j) = x at *
                                    generalize hp : s + j = p at *
                                    have hp9 : (10 : Nat) ^ j ≤ 10 ^ 9 := Nat.pow_le_pow_right (by decide) (by omega)
                                    have hm9 : m < 1000000000 := Nat.lt_of_lt_of_le HM.out (Nat.le_trans hp9 (by decide))
                                    clear hp9
                                    have d1 : (p : Int) < ((u + 1 : Nat) : Int) := by omega
                                    have d0 : (0 : Int) ≤ (p : Int) := by omega
                                    have dn : (p : Int) < (n : Int) := by omega
                                    have HP : Hid (s + j = p ∧ j < dl ∧ p < u + 1) := show _ ∧ _ ∧ _ from ⟨hp, hjl, by omega⟩
                                    have hpb : p ≤ 1000000 := by omega
                                    clear hp hjl hj
                                    by_cases hx1 : x < 48
                                    · have e1 : (x : Int) < 48 := by omega
                                      have HE : Hid (numF 0 D = none) := by
                                        show numF 0 D = none
                                        rw [HNU.out, HDD.out]
                                        exact if_neg (by omega)
                                      have HQ : Hid (RLenR L (.returned (.tuple #[.int .i64 ((0 : Nat) : Int), .int .i64 ((2 : Nat) : Int)]))) := RLenR.of (by rw [HR.out]; rw [HNUM.out, HE.out])
                                      clear hx1
                                      go_wp2
                                      go_ret2
                                      exact ⟨HQ.out, HBR.out⟩
                                    · have e1 : ¬ (x : Int) < 48 := by omega
                                      by_cases hx2 : 57 < x
                                      · have e2 : (57 : Int) < (x : Int) := by omega
                                        have HE : Hid (numF 0 D = none) := by
                                          show numF 0 D = none
                                          rw [HNU.out, HDD.out]
                                          exact if_neg (by omega)
                                        have HQ : Hid (RLenR L (.returned (.tuple #[.int .i64 ((0 : Nat) : Int), .int .i64 ((2 : Nat) : Int)]))) := RLenR.of (by rw [HR.out]; rw [HNUM.out, HE.out])
                                        clear hx1 hx2
                                        go_wp2
                                        go_ret2
                                        exact ⟨HQ.out, HBR.out⟩
                                      · have e2 : ¬ (57 : Int) < (x : Int) := by omega
                                        have HE : Hid (numF 0 D = numF (10 * m + (x - 48)) (D.drop (j + 1))) := by
                                          show numF 0 D = _
                                          rw [HNU.out, HDD.out]
                                          exact if_pos (by omega)
                                        obtain ⟨d, rfl⟩ : ∃ d, x = d + 48 := ⟨x - 48, by omega⟩
                                        have hd : d ≤ 9 := by omega
                                        have f1 : (((d + 48 : Nat) : Int)) - 48 = (d : Int) := by omega
                                        have f2 : IntKind.u8.wrap (d : Int) = (d : Int) := by rw [IntKind.wrap_u8]; omega
                                        have f3 : IntKind.i64.wrap (d : Int) = (d : Int) := by rw [IntKind.wrap_i64]; omega
                                        clear hx1 hx2
                                        go_wp2
                                        go_roundw
                                        case rel =>
                                          have hp := HP.out
                                          refine ⟨j + 1, 10 * m + d, by omega, by first | (congr 1; omega) | rfl, by first | rfl | (congr 1; omega), ?_, ?_, trivial⟩
                                          · have := HM.out
                                            rw [Nat.pow_succ]
                                            omega
                                          · rw [HE.out]
                                            congr 1
                                        case measure => have := HP.out; simp [RowKit.intOf]; omega
                                  · obtain rfl : j = dl := by omega
                                    have ep : s + j = u + 1 := by omega
                                    rw [ep]
                                    have d1 : ¬ ((u + 1 : Nat) : Int) < ((u + 1 : Nat) : Int) := by omega
                                    have HE : Hid (numF 0 D = some m) := by
                                      show numF 0 D = some m
                                      rw [HNU.out, List.drop_of_length_le (by rw [HDN.out]; exact Nat.le_refl _)]
                                      rfl
                                    have HQ : Hid (RLenR L (.returned (.tuple #[.int .i64 (m : Int), .int .i64 ((1 : Nat) : Int)]))) := RLenR.of (by rw [HR.out]; rw [HNUM.out, HE.out])
                                    clear hjl HNU HM
                                    go_wp2
                                    go_ret2
                                    exact ⟨HQ.out, HBR.out⟩
                  · obtain rfl : s = n := by omega
                    have HLV : Hid (lengthL (L.drop 15) = none) := by
                      show _ = _
                      have ht : trimF (L.drop 15) = [] := by rw [← trim_both, HDW0.out, HDE.out]; rfl
                      unfold lengthL
                      rw [ht]
                      rfl
                    have HQ : Hid (RLenR L (.returned (.tuple #[.int .i64 ((0 : Nat) : Int), .int .i64 ((2 : Nat) : Int)]))) := RLenR.of (by rw [HR.out]; rw [HLV.out])
                    have d1 : ¬ (s : Int) < (s : Int) := by omega
                    have e1 : (s : Int) - (s : Int) = 0 := by omega
                    clear hsl hsn hs15
                    go_wp2
                    go_loopw [8] (fun iv wq => iv = .int .i64 (s : Int) ∧ wq = w2) (fun _ _ => 0)
                    case atStart => exact ⟨rfl, rfl⟩
                    case round =>
                      obtain ⟨rfl, hwr⟩ := hrel
                      rw [hwr]
                      clear hwr
                      go_wp2
                      go_ret2
                      exact ⟨HQ.out, HBR.out⟩
          · have HR := hide (HELS.out k HK.out HNO.out (isLen_len (by rw [HK.out]; exact h14)))
            have d14 : ((k : Int) != 14) = true := by simp; omega
            clear hk0 hlt hk h14
            go_wp2
            go_ret2
            exact ⟨HR.out, Below.refl _ _⟩
      · have g58 : ((x : Int) != 58) = true := by simp; omega
        have HN : Hid ((L.takeWhile (· ≠ 58)).length = k + 1 + ((L.drop (k + 1)).takeWhile (· ≠ 58)).length) := by
          show _ = _
          rw [HNM.out, HD.out, List.takeWhile_cons_of_pos (by simpa using h58), List.length_cons]
          omega
        clear hlt hk h58
        go_wp2
        go_roundw
        case rel => exact ⟨k + 1, HLT.out, by go_num, HN.out, trivial⟩
        case measure => have := HLT.out; simp [RowKit.intOf]; omega
    · obtain rfl : k = n := by omega
      have HK : Hid ((L.takeWhile (· ≠ 58)).length = k) := by
        show _ = _
        rw [HNM.out, HDE.out]
        rfl
      have HR := hide (HBAD.out k HK.out (.inl rfl))
      have d1 : ¬ (k : Int) < (k : Int) := by omega
      have dn : ((k : Int) == (k : Int)) = true := beq_iff_eq.2 rfl
      clear hlt hk HNM
      go_wp2
      go_ret2
      exact ⟨HR.out, Below.refl _ _⟩

end Go.Proofs.YtnflbplhokodjaaDoor
