/- Small functions of lex: kinds of bytes, and how many of a kind a text begins with. -/
import Derived.Test.YtehflaenehehhaaUMem
import Derived.Lib.Bytealg
import Derived.Laws.Externs
namespace Go.Proofs.Ytehflaenehehhaa
set_option linter.unusedVariables false
set_option linter.unusedSimpArgs false
set_option maxRecDepth 100000
open Go Go.RowKit Go.Shelf Go.Lib

theorem run_idxbs (s : ByteArray) (c : Int) (w : World) : (callFunc 42 #[.string s, .int .u8 c]).run Try.prog w = .ok (.value (.int .i64 (indexByte s.data.toList c.toNat.toUInt8))) w := by
  rw [run_callFunc_extern Try.func42 (by kernel_rfl) (by kernel_rfl) (by kernel_rfl) (show Extern.find _ = some Extern.BytealgIndexByte.indexByte by kernel_rfl), run_indexByteString]
  rfl

set_option maxHeartbeats 1000000 in
theorem sindex_calls (w : World) (s : ByteArray) (x : Nat) :
    Calls Try.prog 39 #[.string s, .int .u8 (x : Int)] w fun e w' => e = .returned (.int .i64 (indexByte s.data.toList (UInt8.ofNat x))) ∧ w' = w := by
  have hib := run_idxbs
  go_enter Try.func39, Try.ntmps39
  go_wp2
  go_ret
  exact ⟨rfl, rfl⟩

/-- Kinds of bytes. -/
def blankB (x : Nat) : Bool := decide (x = 32) || decide (x = 9) || decide (x = 10) || decide (x = 13)
def lineB (x : Nat) : Bool := !decide (x = 10)
def letterB (x : Nat) : Bool := decide (97 ≤ x) && decide (x ≤ 122)
def digitB (x : Nat) : Bool := decide (48 ≤ x) && decide (x ≤ 57)
def nameB (x : Nat) : Bool := letterB x || digitB x || decide (x = 95)

def blankS : ByteArray := ⟨#[32, 9, 10, 13]⟩
theorem blank_all : ∀ x : Fin 256, decide (0 ≤ indexByte [32, 9, 10, 13] (UInt8.ofNat x.val)) = blankB x.val := by decide
theorem blank_dec {x : Nat} (hx : x < 256) : decide ((0 : Int) ≤ indexByte blankS.data.toList (UInt8.ofNat x)) = blankB x := blank_all ⟨x, hx⟩

set_option maxHeartbeats 1000000 in
theorem isBlank_calls (w : World) (x : Nat) (hx : x < 256) :
    Calls Try.prog 31 #[.int .u8 (x : Int)] w fun e w' => e = .returned (.bool (blankB x)) ∧ w' = w := by
  have HB := hide (blank_dec hx)
  go_enter Try.func31, Try.ntmps31
  go_wp2_with fail
  refine (sindex_calls _ blankS x).mono ?_
  rintro e w1 ⟨rfl, hw⟩
  rw [hw]
  clear hw
  generalize hz : indexByte blankS.data.toList (UInt8.ofNat x) = z at *
  go_wp2
  go_ret
  exact ⟨by rw [← HB.out]; rfl, rfl⟩

set_option maxHeartbeats 1000000 in
theorem inLine_calls (w : World) (x : Nat) :
    Calls Try.prog 34 #[.int .u8 (x : Int)] w fun e w' => e = .returned (.bool (lineB x)) ∧ w' = w := by
  by_cases h : x = 10
  · subst h
    go_enter Try.func34, Try.ntmps34
    go_wp2
    go_ret
    exact ⟨rfl, rfl⟩
  · have e : ((x : Int) != 10) = true := by simp; omega
    have e2 : lineB x = true := by unfold lineB; simp [h]
    rw [e2]
    go_enter Try.func34, Try.ntmps34
    go_wp2
    go_ret
    exact ⟨rfl, rfl⟩

set_option maxHeartbeats 1000000 in
theorem isLetter_calls (w : World) (x : Nat) :
    Calls Try.prog 35 #[.int .u8 (x : Int)] w fun e w' => e = .returned (.bool (letterB x)) ∧ w' = w := by
  by_cases h1 : 97 ≤ x
  · have g1 : (97 : Int) ≤ (x : Int) := by omega
    by_cases h2 : x ≤ 122
    · have g2 : (x : Int) ≤ 122 := by omega
      have e : letterB x = true := by unfold letterB; simp [h1, h2]
      rw [e]
      go_enter Try.func35, Try.ntmps35
      go_wp2
      go_ret
      exact ⟨rfl, rfl⟩
    · have g2 : ¬ (x : Int) ≤ 122 := by omega
      have e : letterB x = false := by unfold letterB; simp [h2]
      rw [e]
      go_enter Try.func35, Try.ntmps35
      go_wp2
      go_ret
      exact ⟨rfl, rfl⟩
  · have g1 : ¬ (97 : Int) ≤ (x : Int) := by omega
    have e : letterB x = false := by unfold letterB; simp [h1]
    rw [e]
    go_enter Try.func35, Try.ntmps35
    go_wp2
    go_ret
    exact ⟨rfl, rfl⟩

set_option maxHeartbeats 1000000 in
theorem isDigit_calls (w : World) (x : Nat) :
    Calls Try.prog 37 #[.int .u8 (x : Int)] w fun e w' => e = .returned (.bool (digitB x)) ∧ w' = w := by
  by_cases h1 : 48 ≤ x
  · have g1 : (48 : Int) ≤ (x : Int) := by omega
    by_cases h2 : x ≤ 57
    · have g2 : (x : Int) ≤ 57 := by omega
      have e : digitB x = true := by unfold digitB; simp [h1, h2]
      rw [e]
      go_enter Try.func37, Try.ntmps37
      go_wp2
      go_ret
      exact ⟨rfl, rfl⟩
    · have g2 : ¬ (x : Int) ≤ 57 := by omega
      have e : digitB x = false := by unfold digitB; simp [h2]
      rw [e]
      go_enter Try.func37, Try.ntmps37
      go_wp2
      go_ret
      exact ⟨rfl, rfl⟩
  · have g1 : ¬ (48 : Int) ≤ (x : Int) := by omega
    have e : digitB x = false := by unfold digitB; simp [h1]
    rw [e]
    go_enter Try.func37, Try.ntmps37
    go_wp2
    go_ret
    exact ⟨rfl, rfl⟩

set_option maxHeartbeats 2000000 in
theorem inName_calls (w : World) (x : Nat) :
    Calls Try.prog 36 #[.int .u8 (x : Int)] w fun e w' => e = .returned (.bool (nameB x)) ∧ w' = w := by
  have HN : Hid (nameB x = (letterB x || digitB x || decide (x = 95))) := rfl
  have HL := hide (isLetter_calls w x)
  have HD := hide (isDigit_calls w x)
  cases hl : letterB x with
  | true =>
    rw [hl] at HL HN
    have e : nameB x = true := by rw [HN.out]; simp
    rw [e]
    clear e HN hl HD
    go_enter Try.func36, Try.ntmps36
    go_wp2_with fail
    refine HL.out.mono ?_
    rintro e w1 ⟨rfl, hw⟩
    rw [hw]
    clear hw
    go_wp2
    go_ret
    exact ⟨rfl, rfl⟩
  | false =>
    rw [hl] at HL HN
    cases hd : digitB x with
    | true =>
      rw [hd] at HD HN
      have e : nameB x = true := by rw [HN.out]; simp
      rw [e]
      clear e HN hl hd
      go_enter Try.func36, Try.ntmps36
      go_wp2_with fail
      refine HL.out.mono ?_
      rintro e w1 ⟨rfl, hw⟩
      rw [hw]
      clear hw
      go_wp2_with fail
      refine HD.out.mono ?_
      rintro e w1 ⟨rfl, hw⟩
      rw [hw]
      clear hw
      go_wp2
      go_ret
      exact ⟨rfl, rfl⟩
    | false =>
      rw [hd] at HD HN
      have e : nameB x = decide (x = 95) := by rw [HN.out]; simp
      rw [e]
      have hq : ((x : Int) == 95) = decide (x = 95) := by
        by_cases g : x = 95
        · subst g; rfl
        · rw [decide_eq_false g]; exact beq_eq_false_iff_ne.2 (by omega)
      have HQ := hide hq
      clear e HN hl hd hq
      go_enter Try.func36, Try.ntmps36
      go_wp2_with fail
      refine HL.out.mono ?_
      rintro e w1 ⟨rfl, hw⟩
      rw [hw]
      clear hw
      go_wp2_with fail
      refine HD.out.mono ?_
      rintro e w1 ⟨rfl, hw⟩
      rw [hw]
      clear hw
      go_wp2
      go_ret
      exact ⟨by rw [← HQ.out]; rfl, rfl⟩

/-- How many bytes, from the first on, are of a kind. -/
def RunOf (T : List Nat) (P : Nat → Bool) (n : Nat) : Prop := n ≤ T.length ∧ (∀ j, j < n → P (nth T j) = true) ∧ (n < T.length → P (nth T n) = false)

set_option maxHeartbeats 2000000 in
theorem runOf_isBlank (w : World) (ao : Option Addr) (cap : Nat) (T : List Nat) (h : Byts w (.slice ao T.length cap) T) (hlen : T.length ≤ 1000000000) :
    Calls Try.prog 32 #[.slice ao T.length cap, .func (.func 31) #[] #[]] w fun e w' => ∃ n : Nat, e = .returned (.int .i64 (n : Int)) ∧ RunOf T blankB n ∧ w' = w := by
  obtain ⟨ao', cap', e, hb, hc⟩ := h
  cases e
  go_enter Try.func32, Try.ntmps32
  go_wp2
  go_loopw [9] (fun i wr => ∃ k : Nat, k ≤ T.length ∧ i = .int .i64 (k : Int) ∧ (∀ j, j < k → blankB (nth T j) = true) ∧ wr = w) (fun i _ => T.length - (RowKit.intOf i).toNat)
  case atStart => exact ⟨0, Nat.zero_le _, rfl, fun j hj => by omega, rfl⟩
  case round =>
    obtain ⟨k, hk, rfl, h3, rfl⟩ := hrel
    have H3 := hide h3
    clear h3
    by_cases hlt : k < T.length
    · obtain ⟨b, off, rfl, c0⟩ := hc k hlt
      have l0 := nth_lt hb k
      have d1 : (k : Int) < (T.length : Int) := by omega
      have d0 : (0 : Int) ≤ (k : Int) := by omega
      generalize hx : nth T k = x at *
      have HX := hide hx
      clear hx hc hb
      have HF := hide (fun w => isBlank_calls w x l0)
      cases hp : blankB x with
      | true =>
        rw [hp] at HF
        have HP := hide hp
        clear hp
        go_wp2_with fail
        refine (HF.out _).mono ?_
        rintro e w1 ⟨rfl, hw⟩
        rw [hw]
        clear hw
        go_wp2
        go_roundw
        case rel =>
          refine ⟨k + 1, by omega, by go_num, fun j hj => ?_, trivial⟩
          rcases Nat.lt_succ_iff_lt_or_eq.1 hj with g | g
          · exact H3.out j g
          · rw [g, HX.out]; exact HP.out
        case measure => simp [RowKit.intOf]; omega
      | false =>
        rw [hp] at HF
        have HP := hide hp
        clear hp
        go_wp2_with fail
        refine (HF.out _).mono ?_
        rintro e w1 ⟨rfl, hw⟩
        rw [hw]
        clear hw
        go_wp2
        go_ret
        exact ⟨k, rfl, ⟨by omega, H3.out, fun _ => by rw [HX.out]; exact HP.out⟩, rfl⟩
    · obtain rfl : k = T.length := by omega
      clear hc
      go_wp2
      go_ret
      exact ⟨T.length, rfl, ⟨Nat.le_refl _, H3.out, fun g => by omega⟩, rfl⟩

set_option maxHeartbeats 2000000 in
theorem runOf_inLine (w : World) (ao : Option Addr) (cap : Nat) (T : List Nat) (h : Byts w (.slice ao T.length cap) T) (hlen : T.length ≤ 1000000000) :
    Calls Try.prog 32 #[.slice ao T.length cap, .func (.func 34) #[] #[]] w fun e w' => ∃ n : Nat, e = .returned (.int .i64 (n : Int)) ∧ RunOf T lineB n ∧ w' = w := by
  obtain ⟨ao', cap', e, hb, hc⟩ := h
  cases e
  go_enter Try.func32, Try.ntmps32
  go_wp2
  go_loopw [9] (fun i wr => ∃ k : Nat, k ≤ T.length ∧ i = .int .i64 (k : Int) ∧ (∀ j, j < k → lineB (nth T j) = true) ∧ wr = w) (fun i _ => T.length - (RowKit.intOf i).toNat)
  case atStart => exact ⟨0, Nat.zero_le _, rfl, fun j hj => by omega, rfl⟩
  case round =>
    obtain ⟨k, hk, rfl, h3, rfl⟩ := hrel
    have H3 := hide h3
    clear h3
    by_cases hlt : k < T.length
    · obtain ⟨b, off, rfl, c0⟩ := hc k hlt
      have l0 := nth_lt hb k
      have d1 : (k : Int) < (T.length : Int) := by omega
      have d0 : (0 : Int) ≤ (k : Int) := by omega
      generalize hx : nth T k = x at *
      have HX := hide hx
      clear hx hc hb
      have HF := hide (fun w => inLine_calls w x)
      cases hp : lineB x with
      | true =>
        rw [hp] at HF
        have HP := hide hp
        clear hp
        go_wp2_with fail
        refine (HF.out _).mono ?_
        rintro e w1 ⟨rfl, hw⟩
        rw [hw]
        clear hw
        go_wp2
        go_roundw
        case rel =>
          refine ⟨k + 1, by omega, by go_num, fun j hj => ?_, trivial⟩
          rcases Nat.lt_succ_iff_lt_or_eq.1 hj with g | g
          · exact H3.out j g
          · rw [g, HX.out]; exact HP.out
        case measure => simp [RowKit.intOf]; omega
      | false =>
        rw [hp] at HF
        have HP := hide hp
        clear hp
        go_wp2_with fail
        refine (HF.out _).mono ?_
        rintro e w1 ⟨rfl, hw⟩
        rw [hw]
        clear hw
        go_wp2
        go_ret
        exact ⟨k, rfl, ⟨by omega, H3.out, fun _ => by rw [HX.out]; exact HP.out⟩, rfl⟩
    · obtain rfl : k = T.length := by omega
      clear hc
      go_wp2
      go_ret
      exact ⟨T.length, rfl, ⟨Nat.le_refl _, H3.out, fun g => by omega⟩, rfl⟩

set_option maxHeartbeats 2000000 in
theorem runOf_inName (w : World) (ao : Option Addr) (cap : Nat) (T : List Nat) (h : Byts w (.slice ao T.length cap) T) (hlen : T.length ≤ 1000000000) :
    Calls Try.prog 32 #[.slice ao T.length cap, .func (.func 36) #[] #[]] w fun e w' => ∃ n : Nat, e = .returned (.int .i64 (n : Int)) ∧ RunOf T nameB n ∧ w' = w := by
  obtain ⟨ao', cap', e, hb, hc⟩ := h
  cases e
  go_enter Try.func32, Try.ntmps32
  go_wp2
  go_loopw [9] (fun i wr => ∃ k : Nat, k ≤ T.length ∧ i = .int .i64 (k : Int) ∧ (∀ j, j < k → nameB (nth T j) = true) ∧ wr = w) (fun i _ => T.length - (RowKit.intOf i).toNat)
  case atStart => exact ⟨0, Nat.zero_le _, rfl, fun j hj => by omega, rfl⟩
  case round =>
    obtain ⟨k, hk, rfl, h3, rfl⟩ := hrel
    have H3 := hide h3
    clear h3
    by_cases hlt : k < T.length
    · obtain ⟨b, off, rfl, c0⟩ := hc k hlt
      have l0 := nth_lt hb k
      have d1 : (k : Int) < (T.length : Int) := by omega
      have d0 : (0 : Int) ≤ (k : Int) := by omega
      generalize hx : nth T k = x at *
      have HX := hide hx
      clear hx hc hb
      have HF := hide (fun w => inName_calls w x)
      cases hp : nameB x with
      | true =>
        rw [hp] at HF
        have HP := hide hp
        clear hp
        go_wp2_with fail
        refine (HF.out _).mono ?_
        rintro e w1 ⟨rfl, hw⟩
        rw [hw]
        clear hw
        go_wp2
        go_roundw
        case rel =>
          refine ⟨k + 1, by omega, by go_num, fun j hj => ?_, trivial⟩
          rcases Nat.lt_succ_iff_lt_or_eq.1 hj with g | g
          · exact H3.out j g
          · rw [g, HX.out]; exact HP.out
        case measure => simp [RowKit.intOf]; omega
      | false =>
        rw [hp] at HF
        have HP := hide hp
        clear hp
        go_wp2_with fail
        refine (HF.out _).mono ?_
        rintro e w1 ⟨rfl, hw⟩
        rw [hw]
        clear hw
        go_wp2
        go_ret
        exact ⟨k, rfl, ⟨by omega, H3.out, fun _ => by rw [HX.out]; exact HP.out⟩, rfl⟩
    · obtain rfl : k = T.length := by omega
      clear hc
      go_wp2
      go_ret
      exact ⟨T.length, rfl, ⟨Nat.le_refl _, H3.out, fun g => by omega⟩, rfl⟩

set_option maxHeartbeats 2000000 in
theorem runOf_isDigit (w : World) (ao : Option Addr) (cap : Nat) (T : List Nat) (h : Byts w (.slice ao T.length cap) T) (hlen : T.length ≤ 1000000000) :
    Calls Try.prog 32 #[.slice ao T.length cap, .func (.func 37) #[] #[]] w fun e w' => ∃ n : Nat, e = .returned (.int .i64 (n : Int)) ∧ RunOf T digitB n ∧ w' = w := by
  obtain ⟨ao', cap', e, hb, hc⟩ := h
  cases e
  go_enter Try.func32, Try.ntmps32
  go_wp2
  go_loopw [9] (fun i wr => ∃ k : Nat, k ≤ T.length ∧ i = .int .i64 (k : Int) ∧ (∀ j, j < k → digitB (nth T j) = true) ∧ wr = w) (fun i _ => T.length - (RowKit.intOf i).toNat)
  case atStart => exact ⟨0, Nat.zero_le _, rfl, fun j hj => by omega, rfl⟩
  case round =>
    obtain ⟨k, hk, rfl, h3, rfl⟩ := hrel
    have H3 := hide h3
    clear h3
    by_cases hlt : k < T.length
    · obtain ⟨b, off, rfl, c0⟩ := hc k hlt
      have l0 := nth_lt hb k
      have d1 : (k : Int) < (T.length : Int) := by omega
      have d0 : (0 : Int) ≤ (k : Int) := by omega
      generalize hx : nth T k = x at *
      have HX := hide hx
      clear hx hc hb
      have HF := hide (fun w => isDigit_calls w x)
      cases hp : digitB x with
      | true =>
        rw [hp] at HF
        have HP := hide hp
        clear hp
        go_wp2_with fail
        refine (HF.out _).mono ?_
        rintro e w1 ⟨rfl, hw⟩
        rw [hw]
        clear hw
        go_wp2
        go_roundw
        case rel =>
          refine ⟨k + 1, by omega, by go_num, fun j hj => ?_, trivial⟩
          rcases Nat.lt_succ_iff_lt_or_eq.1 hj with g | g
          · exact H3.out j g
          · rw [g, HX.out]; exact HP.out
        case measure => simp [RowKit.intOf]; omega
      | false =>
        rw [hp] at HF
        have HP := hide hp
        clear hp
        go_wp2_with fail
        refine (HF.out _).mono ?_
        rintro e w1 ⟨rfl, hw⟩
        rw [hw]
        clear hw
        go_wp2
        go_ret
        exact ⟨k, rfl, ⟨by omega, H3.out, fun _ => by rw [HX.out]; exact HP.out⟩, rfl⟩
    · obtain rfl : k = T.length := by omega
      clear hc
      go_wp2
      go_ret
      exact ⟨T.length, rfl, ⟨Nat.le_refl _, H3.out, fun g => by omega⟩, rfl⟩
end Go.Proofs.Ytehflaenehehhaa
