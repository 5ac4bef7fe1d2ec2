/- The piece with which a text begins, as lex tells it. -/
import Derived.Test.YtehflaenehehhaaLSign
namespace Go.Proofs.Ytehflaenehehhaa
set_option linter.unusedVariables false
set_option linter.unusedSimpArgs false
set_option maxRecDepth 100000
open Go Go.RowKit Go.Shelf Go.Lib

/-- How many bytes, from the first on, are of a kind. -/
def runL (p : Nat → Bool) (T : List Nat) : Nat := (T.takeWhile p).length
theorem run_is {p : Nat → Bool} : ∀ {T : List Nat} {n : Nat}, RunOf T p n → n = runL p T := by
  intro T
  induction T with
  | nil => intro n h; have := h.1; simp at this; simp [runL, this]
  | cons a l ih =>
    intro n h
    obtain ⟨h1, h2, h3⟩ := h
    cases n with
    | zero =>
      have e : p a = false := h3 (by simp)
      simp [runL, e]
    | succ n =>
      have e : p a = true := h2 0 (by omega)
      have := @ih n ⟨by simpa using h1, fun j hj => h2 (j + 1) (by omega), fun g => h3 (by simpa using g)⟩
      rw [this]
      simp [runL, e]
theorem runL_le (p : Nat → Bool) (T : List Nat) : runL p T ≤ T.length := (List.takeWhile_prefix p).length_le

/-- The first piece: its kind, and how many bytes it has. -/
def firstL (T : List Nat) : Int × Nat :=
  if blankB (nth T 0) then (-1, runL blankB T) else if remB T then (-2, runL lineB T) else
  if letterB (nth T 0) then (if isW (strOf (T.take (runL nameB T))) then 2 else 1, runL nameB T) else
  if digitB (nth T 0) then (3, runL digitB T) else if 0 < signL T then (4, signL T) else (-3, 1)

def arR : Array Value := #[.int .u8 47, .int .u8 47]

set_option maxHeartbeats 8000000 in
theorem firstPiece_calls (w : World) (b off cap : Nat) (T : List Nat) (h : Byts w (.slice (some ⟨b, off, none⟩) T.length cap) T) (h1 : 1 ≤ T.length) (hcap : T.length ≤ cap) (hlen : T.length ≤ 1000000000) :
    Calls Try.prog 29 #[.slice (some ⟨b, off, none⟩) T.length cap] w fun e w' => e = .returned (.tuple #[.int .i64 (firstL T).1, .int .i64 (((firstL T).2 : Nat) : Int)]) ∧ Below w.heap.size w w' := by
  have hx : nth T 0 < 256 := nth_lt h.small 0
  obtain ⟨wA, hwA⟩ : ∃ wA, w.alloc (.cells arR 5 (2, 3)) = wA := ⟨_, rfl⟩
  have hc1 : (convert 22 22 (.slice (some ⟨w.heap.size, 0, none⟩) 2 2)).run Try.prog (w.alloc (.cells arR 5)) = .ok (.slice (some ⟨w.heap.size, 0, none⟩) 2 2) wA := by
    rw [← hwA]; exact run_convert_bytes_const w 22 5 arR 2 2 Try.underlying22 Try.underlying5
  have hR : Byts wA (.slice (some ⟨w.heap.size, 0, none⟩) 2 2) [47, 47] := by rw [← hwA]; exact byts_lit w [47, 47] (by decide) (2, 3)
  have hb1 : Below w.heap.size w wA := by rw [← hwA]; exact bel _ _
  have hA := h.below hb1
  have cellOf : ∀ {W : World}, Byts W (.slice (some ⟨b, off, none⟩) T.length cap) T → W.cell? ⟨b, off, none⟩ = some (.int .u8 ((nth T 0 : Nat) : Int)) := by
    intro W hW
    obtain ⟨_, _, e, _, hcs⟩ := hW
    obtain ⟨b', off', e', c0⟩ := hcs 0 h1
    cases e
    cases e'
    rwa [Nat.add_zero] at c0
  have c0 := cellOf h
  have c1 := cellOf hA
  clear cellOf
  have HI := hide (isBlank_calls w (nth T 0) hx)
  have HP := hide (hasPrefix_calls wA b off cap _ T hA hcap hR)
  have HL := hide (isLetter_calls wA (nth T 0))
  have HD := hide (isDigit_calls wA (nth T 0))
  have HS := hide (signSize_calls wA b off cap T hA h1 hcap)
  have R1 := hide (runOf_isBlank w _ cap T h hlen)
  have R2 := hide (runOf_inLine wA _ cap T hA hlen)
  have R3 := hide (runOf_inName wA _ cap T hA hlen)
  have R4 := hide (runOf_isDigit wA _ cap T hA hlen)
  have HB := hide hb1
  have HC : Hid ((convert 22 9 (.slice (some ⟨b, off, none⟩) (runL nameB T) cap)).run Try.prog wA = .ok (.string (strOf (T.take (runL nameB T)))) wA) := by
    have hc := hA.cut (cap' := cap) (p := 0) (m := runL nameB T) (by have := runL_le nameB T; omega)
    rw [List.drop_zero, Nat.add_zero] at hc
    have h3 := conv_byts hc
    exact h3
  have d0 : (0 : Int) < (T.length : Int) := by omega
  clear hb1 hA hR h hwA
  unfold arR at hc1
  have HF : Hid (firstL T = if blankB (nth T 0) then (-1, runL blankB T) else if remB T then (-2, runL lineB T) else
    if letterB (nth T 0) then (if isW (strOf (T.take (runL nameB T))) then 2 else 1, runL nameB T) else
    if digitB (nth T 0) then (3, runL digitB T) else if 0 < signL T then (4, signL T) else (-3, 1)) := by
    show firstL T = _
    rfl
  by_cases g1 : blankB (nth T 0) = true
  · rw [g1] at HI HF
    have e := HF.out
    simp only [if_true] at e
    rw [e]
    clear e HF g1 HP HL HD HS R2 R3 R4 HC c1
    generalize nth T 0 = x at *
    go_enter Try.func29, Try.ntmps29
    go_wp2_with fail
    refine HI.out.mono ?_
    rintro e w1 ⟨rfl, hw⟩
    rw [hw]
    clear hw
    go_wp2_with fail
    refine R1.out.mono ?_
    rintro e w1 ⟨n, rfl, hn, hw⟩
    rw [hw]
    clear hw
    obtain rfl := run_is hn
    clear hn
    go_wp2
    go_ret2
    exact ⟨rfl, Below.refl _ _⟩
  replace g1 : blankB (nth T 0) = false := by simpa using g1
  rw [g1] at HI HF
  clear g1 R1
  by_cases g2 : remB T = true
  · rw [g2] at HP HF
    have e := HF.out
    simp only [if_true, Bool.false_eq_true, if_false] at e
    rw [e]
    clear e HF g2 HL HD HS R3 R4 HC
    generalize nth T 0 = x at *
    go_enter Try.func29, Try.ntmps29
    go_wp2_with fail
    refine HI.out.mono ?_
    rintro e w1 ⟨rfl, hw⟩
    rw [hw]
    clear hw
    go_wp2_with fail
    refine HP.out.mono ?_
    rintro e w1 ⟨rfl, hw⟩
    rw [hw]
    clear hw
    go_wp2_with fail
    refine R2.out.mono ?_
    rintro e w1 ⟨n, rfl, hn, hw⟩
    rw [hw]
    clear hw
    obtain rfl := run_is hn
    clear hn
    go_wp2
    go_ret2
    exact ⟨rfl, HB.out⟩
  replace g2 : remB T = false := by simpa using g2
  rw [g2] at HP HF
  clear g2 R2
  by_cases g3 : letterB (nth T 0) = true
  · rw [g3] at HL HF
    have l1 := runL_le nameB T
    have d1 : ((runL nameB T : Nat) : Int) ≤ (T.length : Int) := by omega
    have d2 : ((runL nameB T : Nat) : Int) ≤ (cap : Int) := by omega
    have d3 : (0 : Int) ≤ ((runL nameB T : Nat) : Int) := by omega
    have HW := hide (isWord_calls wA (strOf (T.take (runL nameB T))))
    by_cases g4 : isW (strOf (T.take (runL nameB T))) = true
    · rw [g4] at HW HF
      have e := HF.out
      simp only [if_true, Bool.false_eq_true, if_false] at e
      rw [e]
      have hc2 := HC.out
      clear e HF g4 g3 HD HS R4 HC
      generalize strOf (T.take (runL nameB T)) = s at *
      generalize hm : runL nameB T = m at *
      have HM := hide hm
      clear hm
      generalize nth T 0 = x at *
      go_enter Try.func29, Try.ntmps29
      go_wp2_with fail
      refine HI.out.mono ?_
      rintro e w1 ⟨rfl, hw⟩
      rw [hw]
      clear hw
      go_wp2_with fail
      refine HP.out.mono ?_
      rintro e w1 ⟨rfl, hw⟩
      rw [hw]
      clear hw
      go_wp2_with fail
      refine HL.out.mono ?_
      rintro e w1 ⟨rfl, hw⟩
      rw [hw]
      clear hw
      go_wp2_with fail
      refine R3.out.mono ?_
      rintro e w1 ⟨n, rfl, hn, hw⟩
      rw [hw]
      clear hw
      obtain rfl := (run_is hn).trans HM.out
      clear hn
      go_wp2_with fail
      refine HW.out.mono ?_
      rintro e w1 ⟨rfl, hw⟩
      rw [hw]
      clear hw
      go_wp2
      go_ret2
      exact ⟨rfl, HB.out⟩
    replace g4 : isW (strOf (T.take (runL nameB T))) = false := by simpa using g4
    rw [g4] at HW HF
    have e := HF.out
    simp only [if_true, Bool.false_eq_true, if_false] at e
    rw [e]
    have hc2 := HC.out
    clear e HF g4 g3 HD HS R4 HC
    generalize strOf (T.take (runL nameB T)) = s at *
    generalize hm : runL nameB T = m at *
    have HM := hide hm
    clear hm
    generalize nth T 0 = x at *
    go_enter Try.func29, Try.ntmps29
    go_wp2_with fail
    refine HI.out.mono ?_
    rintro e w1 ⟨rfl, hw⟩
    rw [hw]
    clear hw
    go_wp2_with fail
    refine HP.out.mono ?_
    rintro e w1 ⟨rfl, hw⟩
    rw [hw]
    clear hw
    go_wp2_with fail
    refine HL.out.mono ?_
    rintro e w1 ⟨rfl, hw⟩
    rw [hw]
    clear hw
    go_wp2_with fail
    refine R3.out.mono ?_
    rintro e w1 ⟨n, rfl, hn, hw⟩
    rw [hw]
    clear hw
    obtain rfl := (run_is hn).trans HM.out
    clear hn
    go_wp2_with fail
    refine HW.out.mono ?_
    rintro e w1 ⟨rfl, hw⟩
    rw [hw]
    clear hw
    go_wp2
    go_ret2
    exact ⟨rfl, HB.out⟩
  replace g3 : letterB (nth T 0) = false := by simpa using g3
  rw [g3] at HL HF
  clear g3 R3 HC
  by_cases g4 : digitB (nth T 0) = true
  · rw [g4] at HD HF
    have e := HF.out
    simp only [if_true, Bool.false_eq_true, if_false] at e
    rw [e]
    clear e HF g4 HS
    generalize nth T 0 = x at *
    go_enter Try.func29, Try.ntmps29
    go_wp2_with fail
    refine HI.out.mono ?_
    rintro e w1 ⟨rfl, hw⟩
    rw [hw]
    clear hw
    go_wp2_with fail
    refine HP.out.mono ?_
    rintro e w1 ⟨rfl, hw⟩
    rw [hw]
    clear hw
    go_wp2_with fail
    refine HL.out.mono ?_
    rintro e w1 ⟨rfl, hw⟩
    rw [hw]
    clear hw
    go_wp2_with fail
    refine HD.out.mono ?_
    rintro e w1 ⟨rfl, hw⟩
    rw [hw]
    clear hw
    go_wp2_with fail
    refine R4.out.mono ?_
    rintro e w1 ⟨n, rfl, hn, hw⟩
    rw [hw]
    clear hw
    obtain rfl := run_is hn
    clear hn
    go_wp2
    go_ret2
    exact ⟨rfl, HB.out⟩
  replace g4 : digitB (nth T 0) = false := by simpa using g4
  rw [g4] at HD HF
  clear g4 R4
  by_cases g5 : 0 < signL T
  · have e := HF.out
    simp only [Bool.false_eq_true, if_false, g5, if_true] at e
    rw [e]
    have d1 : ((signL T : Nat) : Int) > 0 := by omega
    clear e HF g5
    generalize nth T 0 = x at *
    generalize signL T = n at *
    go_enter Try.func29, Try.ntmps29
    go_wp2_with fail
    refine HI.out.mono ?_
    rintro e w1 ⟨rfl, hw⟩
    rw [hw]
    clear hw
    go_wp2_with fail
    refine HP.out.mono ?_
    rintro e w1 ⟨rfl, hw⟩
    rw [hw]
    clear hw
    go_wp2_with fail
    refine HL.out.mono ?_
    rintro e w1 ⟨rfl, hw⟩
    rw [hw]
    clear hw
    go_wp2_with fail
    refine HD.out.mono ?_
    rintro e w1 ⟨rfl, hw⟩
    rw [hw]
    clear hw
    go_wp2_with fail
    refine HS.out.mono ?_
    rintro e w1 ⟨rfl, hw⟩
    rw [hw]
    clear hw
    go_wp2
    go_ret2
    exact ⟨rfl, HB.out⟩
  · have e := HF.out
    simp only [Bool.false_eq_true, if_false, g5] at e
    rw [e]
    have d1 : ¬ ((signL T : Nat) : Int) > 0 := by omega
    clear e HF g5
    generalize nth T 0 = x at *
    generalize signL T = n at *
    go_enter Try.func29, Try.ntmps29
    go_wp2_with fail
    refine HI.out.mono ?_
    rintro e w1 ⟨rfl, hw⟩
    rw [hw]
    clear hw
    go_wp2_with fail
    refine HP.out.mono ?_
    rintro e w1 ⟨rfl, hw⟩
    rw [hw]
    clear hw
    go_wp2_with fail
    refine HL.out.mono ?_
    rintro e w1 ⟨rfl, hw⟩
    rw [hw]
    clear hw
    go_wp2_with fail
    refine HD.out.mono ?_
    rintro e w1 ⟨rfl, hw⟩
    rw [hw]
    clear hw
    go_wp2_with fail
    refine HS.out.mono ?_
    rintro e w1 ⟨rfl, hw⟩
    rw [hw]
    clear hw
    go_wp2
    go_ret2
    exact ⟨rfl, HB.out⟩

end Go.Proofs.Ytehflaenehehhaa
