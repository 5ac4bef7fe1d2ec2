/- Frame: lengthOf: the number that a value is. -/
import Derived.Test.YtnflbplhokodjaaDoorFTrim
namespace Go.Proofs.YtnflbplhokodjaaDoor
set_option linter.unusedVariables false
set_option linter.unusedSimpArgs false
set_option maxRecDepth 100000
open Go Go.RowKit Go.Shelf Go.Lib

theorem num_lt {D : List Nat} {m n : Nat} (h : numF m D = some n) : n < (m + 1) * 10 ^ D.length := by
  induction D generalizing m with
  | nil => simp [numF] at h; subst h; simp
  | cons c l ih =>
    by_cases hc : 48 ≤ c ∧ c ≤ 57
    · have h' : numF (10 * m + (c - 48)) l = some n := by
        have e : numF m (c :: l) = numF (10 * m + (c - 48)) l := if_pos hc
        rw [← e]; exact h
      have := ih h'
      rw [List.length_cons, Nat.pow_succ]
      refine Nat.lt_of_lt_of_le this ?_
      rw [show (m + 1) * (10 ^ l.length * 10) = ((m + 1) * 10) * 10 ^ l.length by rw [Nat.mul_comm (10 ^ l.length) 10, Nat.mul_assoc]]
      exact Nat.mul_le_mul_right _ (by omega)
    · have e : numF m (c :: l) = none := if_neg hc
      rw [e] at h
      cases h
theorem length_lt {T : List Nat} {n : Nat} (h : lengthL T = some n) : n < 10000000000 := by
  unfold lengthL at h
  by_cases hc : (trimF T).length = 0 ∨ 10 < (trimF T).length
  · rw [if_pos hc] at h; cases h
  · rw [if_neg hc] at h
    have := num_lt h
    have h2 : (10 : Nat) ^ (trimF T).length ≤ 10 ^ 10 := Nat.pow_le_pow_right (by decide) (by omega)
    have h3 : (10 : Nat) ^ 10 = 10000000000 := by decide
    omega

/-- What lengthOf answers. -/
def LenR (T : List Nat) (e : Ending) : Prop := (∃ n, lengthL T = some n ∧ e = .returned (.tuple #[.int .i64 (n : Int), .bool true])) ∨ (lengthL T = none ∧ e = .returned (.tuple #[.int .i64 0, .bool false]))

set_option maxHeartbeats 4000000 in
theorem lengthOf_calls (w : World) (ao : Option Addr) (cap : Nat) (T : List Nat) (h : Byts w (.slice ao T.length cap) T) (hcap : T.length ≤ cap) (hlen : T.length ≤ 1000000000) :
    Calls Tryd.prog 39 #[.slice ao T.length cap] w fun e w' => LenR T e ∧ Below w.heap.size w w' := by
  have HT := hide (trim_calls w ao cap T h hcap hlen)
  clear h hcap hlen
  go_enter Tryd.func39, Tryd.ntmps39
  go_wp2_with fail
  refine HT.out.mono ?_
  rintro e w1 ⟨a1, c1, rfl, hB, hb1⟩
  have HD : Hid (lengthL T = if (trimF T).length = 0 ∨ 10 < (trimF T).length then none else numF 0 (trimF T)) := rfl
  generalize trimF T = D at *
  have KB := hide hb1
  have H := hide hB
  clear HT hb1 hB
  by_cases h0 : D.length = 0
  · have d0 : ((D.length : Int) == 0) = true := beq_iff_eq.2 (by omega)
    have HN : Hid (lengthL T = none) := by have := HD.out; rw [if_pos (.inl h0)] at this; exact this
    clear HD H h0
    go_wp2
    go_ret2
    exact ⟨.inr ⟨HN.out, rfl⟩, KB.out⟩
  · have d0 : ((D.length : Int) == 0) = false := beq_eq_false_iff_ne.2 (by omega)
    by_cases h10 : 10 < D.length
    · have d1 : (10 : Int) < (D.length : Int) := by omega
      have HN : Hid (lengthL T = none) := by have := HD.out; rw [if_pos (.inr h10)] at this; exact this
      clear HD H h0 h10
      go_wp2
      go_ret2
      exact ⟨.inr ⟨HN.out, rfl⟩, KB.out⟩
    · have d1 : ¬ (10 : Int) < (D.length : Int) := by omega
      have HN : Hid (lengthL T = numF 0 D) := by have := HD.out; rw [if_neg (by omega)] at this; exact this
      have HL : Hid (D.length ≤ 10) := show D.length ≤ 10 by omega
      clear HD h0 h10
      go_wp2
      clear d0 d1
      go_loopw [5, 20] (fun nv iv wr => ∃ i m : Nat, i ≤ D.length ∧ iv = .int .i64 (i : Int) ∧ nv = .int .i64 (m : Int) ∧ m < 10 ^ i ∧ numF 0 D = numF m (D.drop i) ∧ wr = w1) (fun _ iv _ => D.length - (RowKit.intOf iv).toNat)
      case atStart => exact ⟨0, 0, Nat.zero_le _, rfl, rfl, by decide, rfl, rfl⟩
      case round =>
        obtain ⟨i, m, hi, rfl, rfl, hm, hnum, hwr⟩ := hrel
        rw [hwr]
        clear hwr
        have HM := hide hm
        have HNU := hide hnum
        have hl := HL.out
        clear hm hnum
        by_cases hlt : i < D.length
        · obtain ⟨ao', c', e', hb, hc⟩ := H.out
          cases e'
          obtain ⟨b, off, rfl, hcell⟩ := hc i hlt
          have hx := nth_lt hb i
          have HDR : Hid (D.drop i = nth D i :: D.drop (i + 1)) := by
            show D.drop i = _
            rw [List.drop_eq_getElem_cons hlt]
            simp [nth, hlt]
          clear hc hb
          generalize nth D i = x at *
          have hp9 : (10 : Nat) ^ i ≤ 10 ^ 9 := Nat.pow_le_pow_right (by decide) (by omega)
          have hm9 : m < 1000000000 := Nat.lt_of_lt_of_le HM.out (Nat.le_trans hp9 (by decide))
          clear hp9
          have hi9 : i ≤ 9 := by omega
          have d1 : (i : Int) < (D.length : Int) := by omega
          have d2 : (0 : Int) ≤ (i : Int) := by omega
          have HLT := hide hlt
          clear hlt hl hi
          generalize hDn : D.length = Dn at *
          clear hDn
          by_cases hx1 : x < 48
          · have e1 : (x : Int) < 48 := by omega
            have HE : Hid (numF 0 D = none) := by
              show numF 0 D = none
              rw [HNU.out, HDR.out]
              exact if_neg (by omega)
            clear hx1
            go_wp2
            go_ret2
            exact ⟨.inr ⟨HN.out.trans HE.out, rfl⟩, KB.out⟩
          · have e1 : ¬ (x : Int) < 48 := by omega
            by_cases hx2 : 57 < x
            · have e2 : (57 : Int) < (x : Int) := by omega
              have HE : Hid (numF 0 D = none) := by
                show numF 0 D = none
                rw [HNU.out, HDR.out]
                exact if_neg (by omega)
              clear hx1 hx2
              go_wp2
              go_ret2
              exact ⟨.inr ⟨HN.out.trans HE.out, rfl⟩, KB.out⟩
            · have e2 : ¬ (57 : Int) < (x : Int) := by omega
              have HE : Hid (numF 0 D = numF (10 * m + (x - 48)) (D.drop (i + 1))) := by
                show numF 0 D = _
                rw [HNU.out, HDR.out]
                exact if_pos (by omega)
              obtain ⟨d, rfl⟩ : ∃ d, x = d + 48 := ⟨x - 48, by omega⟩
              have hd : d ≤ 9 := by omega
              have f1 : (((d + 48 : Nat) : Int)) - 48 = (d : Int) := by omega
              have f2 : IntKind.u8.wrap (d : Int) = (d : Int) := by rw [IntKind.wrap_u8]; omega
              have f3 : IntKind.i64.wrap (d : Int) = (d : Int) := by rw [IntKind.wrap_i64]; omega
              clear hx1 hx2
              go_wp2
              go_roundw
              case rel =>
                refine ⟨i + 1, 10 * m + d, by have := HLT.out; omega, by first | rfl | (congr 1), by first | rfl | (congr 1; omega), ?_, ?_, trivial⟩
                · have := HM.out
                  rw [Nat.pow_succ]
                  omega
                · rw [HE.out]
                  congr 1
              case measure => have := HLT.out; simp [RowKit.intOf]; omega
        · obtain rfl : i = D.length := by omega
          have d1 : ¬ (D.length : Int) < (D.length : Int) := by omega
          have HE : Hid (numF 0 D = some m) := by
            show numF 0 D = some m
            rw [HNU.out, List.drop_length]
            rfl
          clear hlt hl hi HNU HM
          go_wp2
          go_ret2
          exact ⟨.inl ⟨m, HN.out.trans HE.out, rfl⟩, KB.out⟩

end Go.Proofs.YtnflbplhokodjaaDoor
