/- Is a text a name, as the reference tells it; it is as lex tells it. -/
import Derived.Test.YtehflaenehehhaaLRef
namespace Go.Proofs.Ytehflaenehehhaa
set_option linter.unusedVariables false
set_option linter.unusedSimpArgs false
set_option maxRecDepth 100000
open Go Go.RowKit Go.Shelf Go.Lib

theorem strOf_natsOf (s : ByteArray) : strOf (natsOf s) = s := by
  cases s with
  | mk d =>
    unfold strOf natsOf
    rw [List.map_map]
    have : (UInt8.ofNat ∘ UInt8.toNat) = id := by funext x; simp
    rw [this, List.map_id]

/-- A name, as the chapter says it. -/
def nameP (s : ByteArray) : Prop := 1 ≤ s.size ∧ s.size ≤ 24 ∧ letterB (nth (natsOf s) 0) = true ∧ isW s = false ∧ ∀ j, j < s.size → nameB (nth (natsOf s) j) = true

theorem runL_all {p : Nat → Bool} : ∀ {T : List Nat}, runL p T = T.length ↔ ∀ j, j < T.length → p (nth T j) = true := by
  intro T
  induction T with
  | nil => simp [runL]
  | cons a l ih =>
    constructor
    · intro h j hj
      by_cases e : p a = true
      · have h' : runL p l = l.length := by simpa [runL, e] using h
        cases j with
        | zero => exact e
        | succ j => exact ih.1 h' j (by simpa using hj)
      · simp [runL, e] at h
    · intro h
      have e : p a = true := h 0 (by simp)
      have h' := ih.2 (fun j hj => h (j + 1) (by simpa using hj))
      simpa [runL, e] using h'

theorem isN_iff (s : ByteArray) : isN s = true ↔ nameP s := by
  have hl := natsOf_length s
  unfold isN nameP
  simp only [Bool.and_eq_true, decide_eq_true_eq]
  by_cases g3 : letterB (nth (natsOf s) 0) = true
  · have gb : blankB (nth (natsOf s) 0) = false := by
      unfold letterB at g3
      simp at g3
      unfold blankB
      simp
      omega
    have gr : remB (natsOf s) = false := by
      unfold letterB at g3
      simp at g3
      unfold remB
      simp
      omega
    have hf : firstL (natsOf s) = (if isW (strOf ((natsOf s).take (runL nameB (natsOf s)))) then 2 else 1, runL nameB (natsOf s)) := by
      unfold firstL
      simp only [gb, gr, g3, Bool.false_eq_true, if_false, if_true]
    rw [hf]
    dsimp only
    constructor
    · rintro ⟨⟨⟨h1, h2⟩, h3⟩, h4⟩
      rw [h4, ← hl, List.take_length, strOf_natsOf] at h3
      refine ⟨h1, h2, g3, ?_, ?_⟩
      · cases hw : isW s with
        | false => rfl
        | true => rw [hw] at h3; simp at h3
      · rw [← hl]
        exact runL_all.1 (by rw [h4, hl])
    · rintro ⟨h1, h2, _, h4, h5⟩
      have hr : runL nameB (natsOf s) = s.size := by
        rw [← hl] at h5 ⊢
        exact runL_all.2 h5
      refine ⟨⟨⟨h1, h2⟩, ?_⟩, hr⟩
      rw [hr, ← hl, List.take_length, strOf_natsOf, h4]
      rfl
  · constructor
    · rintro ⟨⟨_, h3⟩, _⟩
      exfalso
      unfold firstL at h3
      rw [if_neg g3] at h3
      revert h3
      repeat' split
      all_goals simp
    · rintro ⟨_, _, h, _⟩
      exact absurd h g3

theorem get_nth (s : ByteArray) : ∀ (n : Nat) (h : n < s.size), ((s[n]'h).toNat : Int) = ((nth (natsOf s) n : Nat) : Int) := by
  intro n h
  have h' : n < s.data.size := h
  rw [natsOf_nth s h']
  rfl

set_option maxHeartbeats 4000000 in
theorem rIsName_calls (w : World) (s : ByteArray) :
    Calls Try.prog 19 #[.string s] w fun e w' => e = .returned (.bool (isN s)) ∧ Below w.heap.size w w' := by
  by_cases h0 : s.size < 1
  · have e : isN s = false := by unfold isN; simp [show ¬ 1 ≤ s.size by omega]
    rw [e]
    have d1 : (s.size : Int) < 1 := by omega
    clear h0 e
    go_enter Try.func19, Try.ntmps19
    go_wp2
    go_ret
    exact ⟨rfl, Below.refl _ _⟩
  have g0 : ¬ (s.size : Int) < 1 := by omega
  by_cases h1 : 24 < s.size
  · have e : isN s = false := by unfold isN; simp [show ¬ s.size ≤ 24 by omega]
    rw [e]
    have d1 : (s.size : Int) > 24 := by omega
    clear e h0 h1
    go_enter Try.func19, Try.ntmps19
    go_wp2
    go_ret
    exact ⟨rfl, Below.refl _ _⟩
  have d1 : ¬ (s.size : Int) > 24 := by omega
  have hs0 : 0 < s.size := by omega
  have hget := get_nth s
  have HN := hide (isN_iff s)
  by_cases h2 : nth (natsOf s) 0 < 97
  · have e : isN s = false := by
      cases hq : isN s with
      | false => rfl
      | true =>
        have hl := (HN.out.1 hq).2.2.1
        unfold letterB at hl
        simp at hl
        omega
    rw [e]
    have d2 : ((nth (natsOf s) 0 : Nat) : Int) < 97 := by omega
    clear e h0 h1 h2 HN
    go_enter Try.func19, Try.ntmps19
    go_wp2
    go_ret
    exact ⟨rfl, Below.refl _ _⟩
  have d2 : ¬ ((nth (natsOf s) 0 : Nat) : Int) < 97 := by omega
  by_cases h3 : 122 < nth (natsOf s) 0
  · have e : isN s = false := by
      cases hq : isN s with
      | false => rfl
      | true =>
        have hl := (HN.out.1 hq).2.2.1
        unfold letterB at hl
        simp at hl
        omega
    rw [e]
    have d3 : ((nth (natsOf s) 0 : Nat) : Int) > 122 := by omega
    clear e h0 h1 h2 h3 HN
    go_enter Try.func19, Try.ntmps19
    go_wp2
    go_ret
    exact ⟨rfl, Below.refl _ _⟩
  have d3 : ¬ ((nth (natsOf s) 0 : Nat) : Int) > 122 := by omega
  have HL : Hid (letterB (nth (natsOf s) 0) = true) := by
    show _ = _
    unfold letterB
    simp
    omega
  have HW := hide (rIsWord_calls w s)
  by_cases h4 : isW s = true
  · have e : isN s = false := by
      cases hq : isN s with
      | false => rfl
      | true =>
        have hl := (HN.out.1 hq).2.2.2.1
        rw [h4] at hl
        cases hl
    rw [e]
    rw [h4] at HW
    clear e h0 h1 h2 h3 h4 HN HL
    go_enter Try.func19, Try.ntmps19
    go_wp2_with fail
    refine HW.out.mono ?_
    rintro e w1 ⟨rfl, hb⟩
    have HB := hide hb
    clear hb
    go_wp2
    go_ret
    exact ⟨rfl, HB.out⟩
  replace h4 : isW s = false := by simpa using h4
  have HI := hide h4
  rw [h4] at HW
  have Hsz := hide (show 1 ≤ s.size ∧ s.size ≤ 24 from ⟨by omega, by omega⟩)
  clear h0 h1 h2 h3 h4
  go_enter Try.func19, Try.ntmps19
  go_wp2_with fail
  refine HW.out.mono ?_
  rintro e wA ⟨rfl, hb⟩
  have HB := hide hb
  clear hb HW
  go_wp2
  go_loopw [3] (fun i wr => ∃ k : Nat, k ≤ s.size ∧ i = .int .i64 (k : Int) ∧ (∀ j, j < k → nameB (nth (natsOf s) j) = true) ∧ wr = wA) (fun i _ => s.size - (RowKit.intOf i).toNat)
  case atStart => exact ⟨0, Nat.zero_le _, rfl, fun j hj => by omega, rfl⟩
  case round =>
    obtain ⟨k, hk, rfl, h3, rfl⟩ := hrel
    have H3 := hide h3
    clear h3
    by_cases hlt : k < s.size
    · have dd1 : (k : Int) < (s.size : Int) := by omega
      have dd0 : (0 : Int) ≤ (k : Int) := by omega
      have HG := hide (goesOn_calls wr (nth (natsOf s) k))
      cases hp : nameB (nth (natsOf s) k) with
      | true =>
        rw [hp] at HG
        have HP := hide hp
        clear hp
        go_wp2_with fail
        refine HG.out.mono ?_
        rintro e w1 ⟨rfl, hw⟩
        rw [hw]
        clear hw
        go_wp2
        go_roundw
        case rel =>
          refine ⟨k + 1, by omega, by go_num, fun j hj => ?_, trivial⟩
          rcases Nat.lt_succ_iff_lt_or_eq.1 hj with g | g
          · exact H3.out j g
          · rw [g]; exact HP.out
        case measure => simp [RowKit.intOf]; omega
      | false =>
        rw [hp] at HG
        have HP := hide hp
        clear hp
        have HE : Hid (isN s = false) := by
          show _ = _
          cases hq : isN s with
          | false => rfl
          | true =>
            have hl := (HN.out.1 hq).2.2.2.2 k hlt
            rw [HP.out] at hl
            cases hl
        go_wp2_with fail
        refine HG.out.mono ?_
        rintro e w1 ⟨rfl, hw⟩
        rw [hw]
        clear hw
        go_wp2
        go_ret
        exact ⟨by rw [HE.out]; rfl, HB.out⟩
    · obtain rfl : k = s.size := by omega
      have HE := hide (HN.out.2 ⟨Hsz.out.1, Hsz.out.2, HL.out, HI.out, H3.out⟩)
      go_wp2
      go_ret
      exact ⟨by rw [HE.out]; rfl, HB.out⟩

end Go.Proofs.Ytehflaenehehhaa
