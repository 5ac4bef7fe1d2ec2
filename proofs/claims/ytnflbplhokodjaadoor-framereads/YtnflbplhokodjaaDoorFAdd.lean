/- Frame: a header, byte by byte. -/
import Derived.Test.YtnflbplhokodjaaDoorFLine
namespace Go.Proofs.YtnflbplhokodjaaDoor
set_option linter.unusedVariables false
set_option linter.unusedSimpArgs false
set_option maxRecDepth 100000
open Go Go.RowKit Go.Shelf Go.Lib

theorem end_empty {h : Hd} {T : List Nat} (h0 : T.length = 0) : endLineL h T = (if h.told then .whole else .none, h) := if_pos h0
theorem end_bad {h : Hd} {T : List Nat} (h0 : T.length ≠ 0) (h1 : (T.takeWhile (· ≠ 58)).length = T.length ∨ (T.takeWhile (· ≠ 58)).length = 0) : endLineL h T = (.none, h) := by
  unfold endLineL
  rw [if_neg h0]
  exact if_pos h1
theorem end_other {h : Hd} {T : List Nat} (h0 : T.length ≠ 0) (h1 : ¬ ((T.takeWhile (· ≠ 58)).length = T.length ∨ (T.takeWhile (· ≠ 58)).length = 0)) (h2 : isLenL (T.takeWhile (· ≠ 58)) = false) : endLineL h T = (.opn, h) := by
  unfold endLineL
  rw [if_neg h0]
  show (if _ then _ else if _ then _ else _) = _
  rw [if_neg h1, if_pos h2]
theorem end_len {h : Hd} {T : List Nat} (h0 : T.length ≠ 0) (h1 : ¬ ((T.takeWhile (· ≠ 58)).length = T.length ∨ (T.takeWhile (· ≠ 58)).length = 0)) (h2 : isLenL (T.takeWhile (· ≠ 58)) = true) :
    endLineL h T = match lengthL (T.drop ((T.takeWhile (· ≠ 58)).length + 1)) with
      | none => (.none, h)
      | some n => if h.told then (.none, h) else (.opn, { h with told := true, length := n }) := by
  unfold endLineL
  rw [if_neg h0]
  show (if _ then _ else if _ then _ else _) = _
  rw [if_neg h1, if_neg (by rw [h2]; simp)]
  rfl

set_option maxHeartbeats 4000000 in
theorem endLine_calls (w : World) (R : Nat) (st sz lv left bv : Value) (h : Hd) (hbx : BoxC w R 48 (rcells st sz lv h.told h.length left bv)) (ao : Option Addr) (cap : Nat) (T : List Nat) (hB : Byts w (.slice ao T.length cap) T) (hcap : T.length ≤ cap) (hn0 : ao = none → cap = 0) (hlen : T.length ≤ 1000000) (hK : Know w) :
    Calls Tryd.prog 31 #[.pointer (some ⟨R, 1, none⟩), .slice ao T.length cap] w fun e w' => EndR h T w R st sz lv left bv e w' := by
  by_cases h0 : T.length = 0
  · have e0 := end_empty (h := h) h0
    have c3 : w.cell? ⟨R, 3, none⟩ = some (.bool h.told) := hbx.cell 3
    have d0 : ((T.length : Int) == 0) = true := beq_iff_eq.2 (by omega)
    have HX := hide hbx
    clear hB hbx h0 hK
    cases ht : h.told with
    | true =>
      have HE : Hid (∃ h', endLineL h T = (.whole, h') ∧ h'.told = h.told ∧ h'.length = h.length) := ⟨h, by rw [e0, ht]; rfl, rfl, rfl⟩
      rw [ht] at c3
      clear e0 ht
      go_enter Tryd.func31, Tryd.ntmps31
      go_wp2
      go_ret
      exact endR_of HE.out HX.out (Fr.refl _ _ _)
    | false =>
      have HE : Hid (∃ h', endLineL h T = (.none, h') ∧ h'.told = h.told ∧ h'.length = h.length) := ⟨h, by rw [e0, ht]; rfl, rfl, rfl⟩
      rw [ht] at c3
      clear e0 ht
      go_enter Tryd.func31, Tryd.ntmps31
      go_wp2
      go_ret
      exact endR_of HE.out HX.out (Fr.refl _ _ _)
  · have d0 : ((T.length : Int) == 0) = false := beq_eq_false_iff_ne.2 (by omega)
    obtain ⟨wA, hwA⟩ : ∃ wA, w.alloc (.cells #[.int .u8 58] 5 (1, 2)) = wA := ⟨_, rfl⟩
    have hc1 : (convert 25 25 (.slice (some ⟨w.heap.size, 0, none⟩) 1 1)).run Tryd.prog (w.alloc (.cells #[.int .u8 58] 5)) = .ok (.slice (some ⟨w.heap.size, 0, none⟩) 1 1) wA := by
      rw [← hwA]; exact run_convert_bytes_const w 25 5 #[.int .u8 58] 1 1 Tryd.underlying25 Tryd.underlying5
    have hs : wA.cell? ⟨w.heap.size, 0, none⟩ = some (.int .u8 58) := by
      have h1 := byts_lit w [58] (by decide) (1, 2)
      obtain ⟨a1, c1, e1, _, h2⟩ := h1
      cases e1
      obtain ⟨b', off', e', hx⟩ := h2 0 (by decide)
      cases e'
      rw [← hwA]
      exact hx
    have hb1 : Below w.heap.size w wA := by rw [← hwA]; exact bel _ _
    have HB := hide hb1
    have HC := hide (cutC_calls wA ao cap w.heap.size T (hB.below hb1) hcap hn0 (by omega) hs (hK.below hb1))
    have HT := hide hB
    have HK := hide hK
    have HX := hide hbx
    have H0 := hide h0
    clear hb1 hs hB hK hwA hbx h0
    go_enter Tryd.func31, Tryd.ntmps31
    go_wp2_with fail
    refine HC.out.mono ?_
    rintro e w1 ⟨hcol, hb1⟩
    have HB1 := hide (bafter HB.out hb1 (Nat.le_refl _))
    clear hb1 hc1 HC
    have hwl := while_le T
    have hwt := while_take T
    rcases hcol with ⟨hk, rfl⟩ | ⟨hk, rfl⟩
    · have HE : Hid (∃ h', endLineL h T = (.none, h') ∧ h'.told = h.told ∧ h'.length = h.length) := ⟨h, end_bad H0.out (.inl hk), rfl, rfl⟩
      clear hk hwl hwt
      go_wp2
      go_ret
      exact endR_of HE.out (HX.out.below HB1.out) (Fr.of HB1.out)
    · have HNB := hide (HT.out.front hwl)
      have HVB := hide (HT.out.rest (f := (T.takeWhile (· ≠ 58)).length + 1) (by omega) hcap)
      rw [hwt] at HNB
      generalize hAV : (if cap = (T.takeWhile (· ≠ 58)).length + 1 then ao else ao.map (·.add ((T.takeWhile (· ≠ 58)).length + 1))) = aV at *
      have hdl : (T.drop ((T.takeWhile (· ≠ 58)).length + 1)).length = T.length - ((T.takeWhile (· ≠ 58)).length + 1) := by simp
      have E0 := hide (end_bad (h := h) H0.out)
      have E1 := hide (end_other (h := h) H0.out)
      have E2 := hide (end_len (h := h) H0.out)
      have hvl : T.length - ((T.takeWhile (· ≠ 58)).length + 1) ≤ cap - ((T.takeWhile (· ≠ 58)).length + 1) := by omega
      have hvm : T.length - ((T.takeWhile (· ≠ 58)).length + 1) ≤ 1000000 := by omega
      generalize hNm : T.takeWhile (· ≠ 58) = Nm at *
      generalize hV : T.drop (Nm.length + 1) = V at *
      rw [← hdl] at HVB hvl hvm
      rw [← hdl]
      generalize hcV : cap - (Nm.length + 1) = cV at *
      have hncap : Nm.length ≤ cap := by omega
      have hnlen : Nm.length ≤ 1000000 := by omega
      have HK0 := hide hk
      clear hdl hcV hV hNm hAV hwt hk hwl
      by_cases hz : Nm.length = 0
      · have z0 : ((Nm.length : Int) == 0) = true := beq_iff_eq.2 (by omega)
        have HE : Hid (∃ h', endLineL h T = (.none, h') ∧ h'.told = h.told ∧ h'.length = h.length) := ⟨h, E0.out (.inr hz), rfl, rfl⟩
        clear hz
        go_wp2
        go_ret
        exact endR_of HE.out (HX.out.below HB1.out) (Fr.of HB1.out)
      · have z0 : ((Nm.length : Int) == 0) = false := beq_eq_false_iff_ne.2 (by omega)
        have HNO : Hid (¬ (Nm.length = T.length ∨ Nm.length = 0)) := fun q => by
          rcases q with q | q
          · exact HK0.out q
          · exact hz q
        have HI := hide (isLength_calls w1 ao cap Nm (HNB.out.below HB1.out) hncap (by omega) (HK.out.below HB1.out))
        clear hz E0
        go_wp2_with fail
        refine HI.out.mono ?_
        rintro e w2 ⟨rfl, hb2⟩
        have HB2 := hide (bafter HB1.out hb2 (by have := HB1.out.size; omega))
        clear hb2 HI
        cases hil : isLenL Nm with
        | false =>
          have HE : Hid (∃ h', endLineL h T = (.opn, h') ∧ h'.told = h.told ∧ h'.length = h.length) := ⟨h, E1.out HNO.out hil, rfl, rfl⟩
          go_wp2
          go_ret
          exact endR_of HE.out (HX.out.below HB2.out) (Fr.of HB2.out)
        | true =>
          have HE2 := hide (E2.out HNO.out hil)
          have HL := hide (lengthOf_calls w2 aV cV V (HVB.out.below HB2.out) hvl (by omega))
          clear E1 E2 hil
          go_wp2_with fail
          refine HL.out.mono ?_
          rintro e w3 ⟨hlen3, hb3⟩
          have HB3 := hide (bafter HB2.out hb3 (by have := HB2.out.size; omega))
          clear hb3 HL
          have hx3 := HX.out.below HB3.out
          have c3 : w3.cell? ⟨R, 3, none⟩ = some (.bool h.told) := hx3.cell 3
          have c4 : w3.cell? ⟨R, 4, none⟩ = some (.int .i64 (h.length : Int)) := hx3.cell 4
          have f3 := hx3.frozen 3
          have f4 := hx3.frozen 4
          have lR := hx3.lt
          have HX3 := hide hx3
          clear hx3
          rcases hlen3 with ⟨n, hn, rfl⟩ | ⟨hn, rfl⟩
          · cases ht : h.told with
            | true =>
              have HE : Hid (∃ h', endLineL h T = (.none, h') ∧ h'.told = h.told ∧ h'.length = h.length) := ⟨h, by rw [HE2.out, hn]; simp [ht], rfl, rfl⟩
              rw [ht] at c3
              clear hn ht HE2
              go_wp2
              go_ret
              exact endR_of HE.out HX3.out (Fr.of HB3.out)
            | false =>
              have HE : Hid (∃ h', endLineL h T = (.opn, h') ∧ h'.told = true ∧ h'.length = n) := ⟨{ h with told := true, length := n }, by rw [HE2.out, hn]; simp [ht], rfl, rfl⟩
              rw [ht] at c3
              clear hn ht HE2
              go_wp2
              go_ret
              exact endR_of HE.out ((HX3.out.set 3 (.bool true)).set 4 (.int .i64 (n : Int))) (((Fr.of HB3.out).set 3 _).set 4 _)
          · have HE : Hid (∃ h', endLineL h T = (.none, h') ∧ h'.told = h.told ∧ h'.length = h.length) := ⟨h, by rw [HE2.out, hn], rfl, rfl⟩
            clear hn HE2
            go_wp2
            go_ret
            exact endR_of HE.out HX3.out (Fr.of HB3.out)

end Go.Proofs.YtnflbplhokodjaaDoor
