/- The reference's words and names. -/
import Derived.Test.YtehflaenehehhaaLName
namespace Go.Proofs.Ytehflaenehehhaa
set_option linter.unusedVariables false
set_option linter.unusedSimpArgs false
set_option maxRecDepth 100000
open Go Go.RowKit Go.Shelf Go.Lib

set_option maxHeartbeats 2000000 in
theorem goesOn_calls (w : World) (x : Nat) :
    Calls Try.prog 24 #[.int .u8 (x : Int)] w fun e w' => e = .returned (.bool (nameB x)) ∧ w' = w := by
  rcases (by omega : (97 ≤ x ∧ x ≤ 122) ∨ (123 ≤ x) ∨ (48 ≤ x ∧ x ≤ 57) ∨ (x = 95) ∨ (58 ≤ x ∧ x ≤ 96 ∧ x ≠ 95) ∨ (x < 48)) with a | a | a | a | a | a
  · have d0 : (x : Int) ≥ 97 := by omega
    have d1 : (x : Int) ≤ 122 := by omega
    have e : nameB x = true := by unfold nameB letterB digitB; simp; omega
    rw [e]
    clear e
    clear a
    go_enter Try.func24, Try.ntmps24
    go_wp2
    go_ret
    exact ⟨rfl, rfl⟩
  · have d0 : (x : Int) ≥ 97 := by omega
    have d1 : ¬ (x : Int) ≤ 122 := by omega
    have d2 : (x : Int) ≥ 48 := by omega
    have d3 : ¬ (x : Int) ≤ 57 := by omega
    have d4 : ((x : Int) == 95) = false := by first | exact beq_eq_false_iff_ne.2 (by omega) | (rw [show x = 95 by omega]; rfl)
    have e : nameB x = false := by unfold nameB letterB digitB; simp; omega
    rw [e]
    clear e
    clear a
    go_enter Try.func24, Try.ntmps24
    go_wp2
    go_ret
    exact ⟨rfl, rfl⟩
  · have d0 : ¬ (x : Int) ≥ 97 := by omega
    have d1 : (x : Int) ≥ 48 := by omega
    have d2 : (x : Int) ≤ 57 := by omega
    have e : nameB x = true := by unfold nameB letterB digitB; simp; omega
    rw [e]
    clear e
    clear a
    go_enter Try.func24, Try.ntmps24
    go_wp2
    go_ret
    exact ⟨rfl, rfl⟩
  · have d0 : ¬ (x : Int) ≥ 97 := by omega
    have d1 : (x : Int) ≥ 48 := by omega
    have d2 : ¬ (x : Int) ≤ 57 := by omega
    have d3 : ((x : Int) == 95) = true := by first | exact beq_eq_false_iff_ne.2 (by omega) | (rw [show x = 95 by omega]; rfl)
    have e : nameB x = true := by unfold nameB letterB digitB; simp; omega
    rw [e]
    clear e
    clear a
    go_enter Try.func24, Try.ntmps24
    go_wp2
    go_ret
    exact ⟨rfl, rfl⟩
  · have d0 : ¬ (x : Int) ≥ 97 := by omega
    have d1 : (x : Int) ≥ 48 := by omega
    have d2 : ¬ (x : Int) ≤ 57 := by omega
    have d3 : ((x : Int) == 95) = false := by first | exact beq_eq_false_iff_ne.2 (by omega) | (rw [show x = 95 by omega]; rfl)
    have e : nameB x = false := by unfold nameB letterB digitB; simp; omega
    rw [e]
    clear e
    clear a
    go_enter Try.func24, Try.ntmps24
    go_wp2
    go_ret
    exact ⟨rfl, rfl⟩
  · have d0 : ¬ (x : Int) ≥ 97 := by omega
    have d1 : ¬ (x : Int) ≥ 48 := by omega
    have d2 : ((x : Int) == 95) = false := by first | exact beq_eq_false_iff_ne.2 (by omega) | (rw [show x = 95 by omega]; rfl)
    have e : nameB x = false := by unfold nameB letterB digitB; simp; omega
    rw [e]
    clear e
    clear a
    go_enter Try.func24, Try.ntmps24
    go_wp2
    go_ret
    exact ⟨rfl, rfl⟩

def wordAt (j : Nat) : List UInt8 := wordsL[j]?.getD []
def wordB (j : Nat) : ByteArray := ⟨(wordAt j).toArray⟩
def wordsV : Array Value := (wordsL.map (fun l => Value.string ⟨l.toArray⟩)).toArray
theorem wordsV_at {j : Nat} (h : j < 22) : wordsV[j]? = some (.string (wordB j)) := by
  have h' : j < wordsL.length := h
  unfold wordsV wordB wordAt
  rw [List.getElem?_toArray, List.getElem?_map, List.getElem?_eq_getElem h']
  rfl
theorem isW_iff (s : ByteArray) : isW s = true ↔ ∃ j, j < 22 ∧ (s.data.toList == wordAt j) = true := by
  unfold isW
  rw [List.any_eq_true]
  constructor
  · rintro ⟨l, hl, he⟩
    obtain ⟨j, hj, rfl⟩ := List.getElem_of_mem hl
    refine ⟨j, hj, ?_⟩
    unfold wordAt
    rw [List.getElem?_eq_getElem hj]
    exact he
  · rintro ⟨j, hj, he⟩
    have hj' : j < wordsL.length := hj
    unfold wordAt at he
    rw [List.getElem?_eq_getElem hj'] at he
    exact ⟨wordsL[j], List.getElem_mem hj', he⟩

set_option maxHeartbeats 4000000 in
theorem rwords_calls (w : World) :
    Calls Try.prog 28 #[] w fun e w' => ∃ b off, e = .returned (.slice (some ⟨b, off, none⟩) 22 22) ∧ (∀ j, j < 22 → w'.cell? ⟨b, off + j, none⟩ = some (.string (wordB j))) ∧ Below w.heap.size w w' := by
  go_enter Try.func28, Try.ntmps28
  go_wp2
  go_ret
  refine ⟨w.heap.size, 0, rfl, fun j hj => ?_, bel _ _⟩
  rw [Nat.zero_add]
  exact (World.cell?_alloc_mark w wordsV 9 (0, 0) j).trans (wordsV_at hj)

theorem eq_flip (a b : List UInt8) : (a == b) = (b == a) := by
  by_cases h : a = b
  · rw [h]
  · rw [beq_eq_false_iff_ne.2 h, beq_eq_false_iff_ne.2 (fun k => h k.symm)]

set_option maxHeartbeats 4000000 in
theorem rIsWord_calls (w : World) (s : ByteArray) :
    Calls Try.prog 17 #[.string s] w fun e w' => e = .returned (.bool (isW s)) ∧ Below w.heap.size w w' := by
  go_enter Try.func17, Try.ntmps17
  go_wp2_with fail
  refine (rwords_calls w).mono ?_
  rintro e wA ⟨b, off, rfl, hc, hb⟩
  have HC := hide hc
  have HB := hide hb
  clear hc hb
  go_wp2
  go_loopw [4] (fun i wr => ∃ k : Nat, k ≤ 22 ∧ i = .int .i64 (k : Int) ∧ (∀ j, j < k → (s.data.toList == wordAt j) = false) ∧ wr = wA) (fun i _ => 22 - (RowKit.intOf i).toNat)
  case atStart => exact ⟨0, Nat.zero_le _, rfl, fun j hj => by omega, rfl⟩
  case round =>
    obtain ⟨k, hk, rfl, h3, rfl⟩ := hrel
    have H3 := hide h3
    clear h3
    by_cases hlt : k < 22
    · have c0 := HC.out k hlt
      have d1 : (k : Int) < 22 := by omega
      have d0 : (0 : Int) ≤ (k : Int) := by omega
      have HE : Hid (((wordB k).toList == s.toList) = (s.data.toList == wordAt k)) := by
        show _ = _
        rw [toList_data, toList_data, eq_flip]
        rfl
      generalize wordB k = u at *
      cases hp : (s.data.toList == wordAt k) with
      | true =>
        rw [hp] at HE
        have g := HE.out
        have HP := hide hp
        clear HE hp
        have e : isW s = true := (isW_iff s).2 ⟨k, hlt, HP.out⟩
        clear HP
        go_wp2
        go_ret
        exact ⟨by rw [e]; rfl, HB.out⟩
      | false =>
        rw [hp] at HE
        have g := HE.out
        have HP := hide hp
        clear HE hp
        go_wp2
        go_roundw
        case rel =>
          refine ⟨k + 1, by omega, by go_num, fun j hj => ?_, trivial⟩
          rcases Nat.lt_succ_iff_lt_or_eq.1 hj with g | g
          · exact H3.out j g
          · rw [g]; exact HP.out
        case measure => simp [RowKit.intOf]; omega
    · obtain rfl : k = 22 := by omega
      have e : isW s = false := by
        cases hq : isW s with
        | false => rfl
        | true =>
          obtain ⟨j, hj, he⟩ := (isW_iff s).1 hq
          rw [H3.out j hj] at he
          cases he
      have HE := hide e
      clear e
      go_wp2
      go_ret
      exact ⟨by rw [HE.out]; rfl, HB.out⟩

end Go.Proofs.Ytehflaenehehhaa
