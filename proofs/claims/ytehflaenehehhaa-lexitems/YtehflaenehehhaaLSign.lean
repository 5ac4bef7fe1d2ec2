/- Signs, as lex tells them. -/
import Derived.Test.YtehflaenehehhaaLMem
namespace Go.Proofs.Ytehflaenehehhaa
set_option linter.unusedVariables false
set_option linter.unusedSimpArgs false
set_option maxRecDepth 100000
open Go Go.RowKit Go.Shelf Go.Lib

/-- The signs of two bytes; those of one. -/
def pairsL : List (List UInt8) := [[45, 62], [60, 61], [62, 61], [33, 61]]
def pairB (s : ByteArray) : Bool := pairsL.any (fun l => s.data.toList == l)
def oneB (x : Nat) : Bool := [40, 41, 123, 125, 44, 58, 61, 59, 43, 45, 42, 47, 37, 60, 62].contains x
def twoB (T : List Nat) : Bool := decide (2 ≤ T.length) && pairB (strOf (T.take 2))
/-- How many bytes the sign has with which a text begins. -/
def signL (T : List Nat) : Nat := if twoB T then 2 else if oneB (nth T 0) then 1 else 0

def oneS : ByteArray := ⟨#[40, 41, 123, 125, 44, 58, 61, 59, 43, 45, 42, 47, 37, 60, 62]⟩
theorem one_all : ∀ x : Fin 256, decide (0 ≤ indexByte [40, 41, 123, 125, 44, 58, 61, 59, 43, 45, 42, 47, 37, 60, 62] (UInt8.ofNat x.val)) = oneB x.val := by decide
theorem one_dec {x : Nat} (hx : x < 256) : decide ((0 : Int) ≤ indexByte oneS.data.toList (UInt8.ofNat x)) = oneB x := one_all ⟨x, hx⟩

set_option maxHeartbeats 4000000 in
theorem signSize_calls (w : World) (b off cap : Nat) (T : List Nat) (h : Byts w (.slice (some ⟨b, off, none⟩) T.length cap) T) (h1 : 1 ≤ T.length) (hcap : T.length ≤ cap) :
    Calls Try.prog 38 #[.slice (some ⟨b, off, none⟩) T.length cap] w fun e w' => e = .returned (.int .i64 (signL T : Int)) ∧ w' = w := by
  have hx : nth T 0 < 256 := nth_lt h.small 0
  obtain ⟨_, _, e, _, hcs⟩ := id h
  obtain ⟨b', off', e', c0⟩ := hcs 0 h1
  cases e
  cases e'
  rw [Nat.add_zero] at c0
  clear hcs
  have HB := hide (one_dec hx)
  have d0 : (0 : Int) < (T.length : Int) := by omega
  by_cases h2 : 2 ≤ T.length
  · have hc := h.cut (cap' := cap) (p := 0) (m := 2) (by omega)
    rw [List.drop_zero, Nat.add_zero] at hc
    have hv := conv_byts hc
    have d1 : (T.length : Int) ≥ 2 := by omega
    have d2 : (2 : Int) ≤ (T.length : Int) := by omega
    have d3 : (2 : Int) ≤ (cap : Int) := by omega
    have E : signL T = if pairB (strOf (T.take 2)) then 2 else if oneB (nth T 0) then 1 else 0 := by
      unfold signL twoB
      simp only [h2, decide_true, Bool.true_and]
    rw [E]
    clear E hc h
    generalize strOf (T.take 2) = s at *
    generalize nth T 0 = x at *
    have HW : Hid (pairB s = ((s.data.toList == ([45, 62] : List UInt8) || (s.data.toList == ([60, 61] : List UInt8) || (s.data.toList == ([62, 61] : List UInt8) || (s.data.toList == ([33, 61] : List UInt8) || false)))))) := by
      show pairB s = _
      unfold pairB pairsL
      simp only [List.any_cons, List.any_nil]
    by_cases h0' : (s.data.toList == ([45, 62] : List UInt8)) = true
    · have g0 := (lit_list s [45, 62]).trans h0'
      have e : pairB s = true := by rw [HW.out, h0']; simp
      rw [e]
      clear e HW h0' HB
      simp only [if_true]
      go_enter Try.func38, Try.ntmps38
      go_wp2
      go_ret
      exact ⟨rfl, rfl⟩
    replace h0' : (s.data.toList == ([45, 62] : List UInt8)) = false := by simpa using h0'
    have g0 := (lit_list s [45, 62]).trans h0'
    rw [h0', Bool.false_or] at HW
    by_cases h1' : (s.data.toList == ([60, 61] : List UInt8)) = true
    · have g1 := (lit_list s [60, 61]).trans h1'
      have e : pairB s = true := by rw [HW.out, h1']; simp
      rw [e]
      clear e HW h1' HB
      simp only [if_true]
      go_enter Try.func38, Try.ntmps38
      go_wp2
      go_ret
      exact ⟨rfl, rfl⟩
    replace h1' : (s.data.toList == ([60, 61] : List UInt8)) = false := by simpa using h1'
    have g1 := (lit_list s [60, 61]).trans h1'
    rw [h1', Bool.false_or] at HW
    by_cases h2' : (s.data.toList == ([62, 61] : List UInt8)) = true
    · have g2 := (lit_list s [62, 61]).trans h2'
      have e : pairB s = true := by rw [HW.out, h2']; simp
      rw [e]
      clear e HW h2' HB
      simp only [if_true]
      go_enter Try.func38, Try.ntmps38
      go_wp2
      go_ret
      exact ⟨rfl, rfl⟩
    replace h2' : (s.data.toList == ([62, 61] : List UInt8)) = false := by simpa using h2'
    have g2 := (lit_list s [62, 61]).trans h2'
    rw [h2', Bool.false_or] at HW
    by_cases h3' : (s.data.toList == ([33, 61] : List UInt8)) = true
    · have g3 := (lit_list s [33, 61]).trans h3'
      have e : pairB s = true := by rw [HW.out, h3']; simp
      rw [e]
      clear e HW h3' HB
      simp only [if_true]
      go_enter Try.func38, Try.ntmps38
      go_wp2
      go_ret
      exact ⟨rfl, rfl⟩
    replace h3' : (s.data.toList == ([33, 61] : List UInt8)) = false := by simpa using h3'
    have g3 := (lit_list s [33, 61]).trans h3'
    rw [h3', Bool.false_or] at HW
    have e : pairB s = false := HW.out
    rw [e]
    clear e HW
    simp only [Bool.false_eq_true, if_false]
    clear h0' h1' h2' h3'
    cases hp : oneB x with
    | true =>
      rw [hp] at HB
      clear hp
      simp only [if_true]
      go_enter Try.func38, Try.ntmps38
      go_wp2_with fail
      refine (sindex_calls _ oneS x).mono ?_
      rintro e w1 ⟨rfl, hw⟩
      rw [hw]
      clear hw
      generalize indexByte oneS.data.toList (UInt8.ofNat x) = z at *
      have hz : z ≥ 0 := of_decide_eq_true HB.out
      clear HB
      go_wp2
      go_ret
      exact ⟨rfl, rfl⟩
    | false =>
      rw [hp] at HB
      clear hp
      simp only [Bool.false_eq_true, if_false]
      go_enter Try.func38, Try.ntmps38
      go_wp2_with fail
      refine (sindex_calls _ oneS x).mono ?_
      rintro e w1 ⟨rfl, hw⟩
      rw [hw]
      clear hw
      generalize indexByte oneS.data.toList (UInt8.ofNat x) = z at *
      have hz : ¬ z ≥ 0 := of_decide_eq_false HB.out
      clear HB
      go_wp2
      go_ret
      exact ⟨rfl, rfl⟩
  · have d1 : ¬ (T.length : Int) ≥ 2 := by omega
    have E : signL T = if oneB (nth T 0) then 1 else 0 := by
      unfold signL twoB
      simp [h2]
    rw [E]
    clear E h
    generalize nth T 0 = x at *
    cases hp : oneB x with
    | true =>
      rw [hp] at HB
      clear hp
      simp only [if_true]
      go_enter Try.func38, Try.ntmps38
      go_wp2_with fail
      refine (sindex_calls _ oneS x).mono ?_
      rintro e w1 ⟨rfl, hw⟩
      rw [hw]
      clear hw
      generalize indexByte oneS.data.toList (UInt8.ofNat x) = z at *
      have hz : z ≥ 0 := of_decide_eq_true HB.out
      clear HB
      go_wp2
      go_ret
      exact ⟨rfl, rfl⟩
    | false =>
      rw [hp] at HB
      clear hp
      simp only [Bool.false_eq_true, if_false]
      go_enter Try.func38, Try.ntmps38
      go_wp2_with fail
      refine (sindex_calls _ oneS x).mono ?_
      rintro e w1 ⟨rfl, hw⟩
      rw [hw]
      clear hw
      generalize indexByte oneS.data.toList (UInt8.ofNat x) = z at *
      have hz : ¬ z ≥ 0 := of_decide_eq_false HB.out
      clear HB
      go_wp2
      go_ret
      exact ⟨rfl, rfl⟩

end Go.Proofs.Ytehflaenehehhaa
