/- Whether a sum is light: light. -/
import Derived.Test.YtbjolmgobeagoaaGreatDoorLnRMem
namespace Go.Proofs.YtbjolmgobeagoaaGreatDoor
set_option linter.unusedVariables false
set_option linter.unusedSimpArgs false
set_option maxRecDepth 100000
open Go Go.RowKit Go.Shelf Go.Lib

theorem gsmall_any {w : World} {neg : Bool} {a : Option Addr} {L c : Nat} :
    Calls Tryz.prog 26 #[.agg #[.bool neg, .slice a L c]] w fun e w' => e = .returned (.bool (decide (L ≤ 4))) ∧ Below w.heap.size w w' := by
  by_cases h : L ≤ 4
  · rw [decide_eq_true h]
    exact gsmall_yes h
  · rw [decide_eq_false h]
    exact gsmall_no h
def LightP (M : List Pt) (cL : Nat) : Prop := M.length ≤ 12 ∧ cL ≤ 4 ∧ ∀ m ∈ M, lenV m.2.2.1 ≤ 4
def LightE (w : World) (M : List Pt) (cL : Nat) (e : Ending) (w' : World) : Prop := ∃ r, e = .returned (.bool r) ∧ (r = true ↔ LightP M cL) ∧ Below w.heap.size w w'

set_option maxHeartbeats 4000000 in
theorem light_calls {w : World} {cn : Bool} {ca pa : Option Addr} {cL cc pl pc : Nat} {M : List Pt} (hr : RowP w (.slice pa pl pc) M) (hs : Sl M) :
    Calls Tryz.prog 9 #[.agg #[.bool cn, .slice ca cL cc, .slice pa pl pc]] w fun e w' => LightE w M cL e w' := by
  have tb := Thr.new w (.bool cn) (.slice ca cL cc) (.slice pa pl pc) 27
  have hba := bel w (.cells #[.bool cn, .slice ca cL cc, .slice pa pl pc] 27)
  have HBA := hide hba
  have TB := hide tb
  have HSL := hide hs
  obtain ⟨_, _, e, _, _, h3⟩ := hr
  simp only [Value.slice.injEq] at e
  obtain ⟨rfl, rfl, rfl⟩ := e
  have H3 := hide h3
  clear h3 hs tb hba
  generalize hLn : M.length = Ln at *
  have HLN := hide hLn
  clear hLn
  by_cases h12 : Ln ≤ 12
  · have g0 : ¬ (12 : Int) < (Ln : Int) := by omega
    have g1 : decide ((12 : Int) < (Ln : Int)) = false := decide_eq_false g0
    by_cases hc : cL ≤ 4
    · have hsm := gsmall_yes (w := w.alloc (.cells #[.bool cn, .slice ca cL cc, .slice pa Ln pc] 27)) (neg := cn) (a := ca) (c := cc) hc
      have HC := hide hc
      clear hc
      go_enter Tryz.func9, Tryz.ntmps9
      go_wp2_with fail
      refine hsm.mono ?_
      rintro e w1 ⟨rfl, hb1⟩
      have TB1 := hide (TB.out.keep hb1)
      have HB1 := hide (bafter HBA.out hb1 (Nat.le_refl _))
      clear hsm hb1
      go_wp2
      go_loopw [3] (fun iv wr => ∃ i : Nat, i ≤ Ln ∧ iv = .int .i64 (i : Int) ∧ (∀ m ∈ M.take i, lenV m.2.2.1 ≤ 4) ∧ Thr wr w.heap.size (.bool cn) (.slice ca cL cc) (.slice pa Ln pc) 27 ∧ Below w.heap.size w wr) (fun iv _ => Ln - (RowKit.intOf iv).toNat)
      case atStart => exact ⟨0, Nat.zero_le _, rfl, fun m hm => (by simp at hm), TB1.out, HB1.out⟩
      case round =>
        obtain ⟨i, hi, rfl, hall, htb, hbw⟩ := hrel
        obtain ⟨c0, c1, c2, _, _, _⟩ := htb.every
        have HALL := hide hall
        have HTB := hide htb
        have HBW := hide hbw
        clear hall htb hbw
        by_cases hlt : i < Ln
        · obtain ⟨⟨vr, neg, mv, z⟩, hm⟩ : ∃ m, M[i]? = some m := ⟨_, List.getElem?_eq_getElem (by rw [HLN.out]; exact hlt)⟩
          obtain ⟨ma, mL, mc, e⟩ := HSL.out _ (List.mem_of_getElem? hm)
          simp only at e
          subst e
          obtain ⟨b, o, rfl, hcl⟩ := H3.out i _ hm
          obtain ⟨x0, x1, x2⟩ := hcl.below HBW.out
          dsimp only at x0 x1 x2
          have d1 : (i : Int) < (Ln : Int) := by omega
          have d0 : (0 : Int) ≤ (i : Int) := by omega
          have HM := hide hm
          clear hm hcl
          by_cases hL : mL ≤ 4
          · have hsm := gsmall_yes (w := wr) (neg := neg) (a := ma) (c := mc) hL
            have HL := hide hL
            clear hL
            go_wp2_with fail
            refine hsm.mono ?_
            rintro e w4 ⟨rfl, hb4⟩
            have HT4 := hide (HTB.out.keep hb4)
            have HB4 := hide (bafter HBW.out hb4 (Nat.le_refl _))
            clear hsm hb4
            go_wp2
            go_roundw
            case rel =>
              refine ⟨i + 1, by omega, by go_num, fun m hm => ?_, HT4.out, HB4.out⟩
              rw [List.take_add_one, HM.out] at hm
              rcases List.mem_append.1 hm with hm | hm
              · exact HALL.out m hm
              · simp at hm
                subst hm
                exact HL.out
            case measure => simp [RowKit.intOf]; omega
          · have hsm := gsmall_no (w := wr) (neg := neg) (a := ma) (c := mc) hL
            have HL := hide hL
            clear hL
            go_wp2_with fail
            refine hsm.mono ?_
            rintro e w4 ⟨rfl, hb4⟩
            have HB4 := hide (bafter HBW.out hb4 (Nat.le_refl _))
            clear hsm hb4
            go_wp2
            go_ret
            refine ⟨false, rfl, ⟨fun h => (by cases h), fun h => absurd (h.2.2 _ (List.mem_of_getElem? HM.out)) ?_⟩, HB4.out⟩
            exact HL.out
        · obtain rfl : i = Ln := by omega
          have d1 : ¬ (i : Int) < (i : Int) := by omega
          go_wp2
          go_ret
          refine ⟨true, rfl, ⟨fun _ => ⟨by rw [HLN.out]; omega, HC.out, fun m hm => HALL.out m ?_⟩, fun _ => rfl⟩, HBW.out⟩
          rw [List.take_of_length_le (by rw [HLN.out]; omega)]
          exact hm
    · have hsm := gsmall_no (w := w.alloc (.cells #[.bool cn, .slice ca cL cc, .slice pa Ln pc] 27)) (neg := cn) (a := ca) (c := cc) hc
      have HC := hide hc
      clear hc
      go_enter Tryz.func9, Tryz.ntmps9
      go_wp2_with fail
      refine hsm.mono ?_
      rintro e w1 ⟨rfl, hb1⟩
      have HB1 := hide (bafter HBA.out hb1 (Nat.le_refl _))
      clear hsm hb1
      go_wp2
      go_ret
      exact ⟨false, rfl, ⟨fun h => (by cases h), fun h => absurd h.2.1 HC.out⟩, HB1.out⟩
  · have g0 : (12 : Int) < (Ln : Int) := by omega
    have H12 := hide h12
    clear h12
    go_enter Tryz.func9, Tryz.ntmps9
    go_wp2
    go_ret
    exact ⟨false, rfl, ⟨fun h => (by cases h), fun h => absurd h.1 (by rw [HLN.out]; exact H12.out)⟩, HBA.out⟩

end Go.Proofs.YtbjolmgobeagoaaGreatDoor
