/- Json: numbers: isOne, digits, numberEnd, isNumber. -/
import Derived.Test.YtbdpmpepmjpadaaGreatDoorUMem
import Derived.Lib.Bytealg
import Derived.Laws.Externs
namespace Go.Proofs.YtbdpmpepmjpadaaGreatDoor
set_option linter.unusedVariables false
set_option linter.unusedSimpArgs false
set_option maxRecDepth 100000
open Go Go.RowKit Go.Shelf Go.Lib

theorem run_idxbs (s : ByteArray) (c : Int) (w : World) : (callFunc 108 #[.string s, .int .u8 c]).run Tryz.prog w = .ok (.value (.int .i64 (indexByte s.data.toList c.toNat.toUInt8))) w := by
  rw [run_callFunc_extern Tryz.func108 (by kernel_rfl) (by kernel_rfl) (by kernel_rfl) (show Extern.find _ = some Extern.BytealgIndexByte.indexByte by kernel_rfl), run_indexByteString]
  rfl

set_option maxHeartbeats 1000000 in
theorem sindex_calls (w : World) (s : ByteArray) (x : Nat) :
    Calls Tryz.prog 71 #[.string s, .int .u8 (x : Int)] w fun e w' => e = .returned (.int .i64 (indexByte s.data.toList (UInt8.ofNat x))) ∧ w' = w := by
  have hib := run_idxbs
  go_enter Tryz.func71, Tryz.ntmps71
  go_wp2
  go_ret
  exact ⟨rfl, rfl⟩

/-- Is there, at a place, one of these bytes? -/
def hasB (T : List Nat) (p : Nat) (s : List UInt8) : Bool := decide (p < T.length) && decide ((0 : Int) ≤ indexByte s (UInt8.ofNat (nth T p)))

set_option maxHeartbeats 2000000 in
theorem isOne_calls (w : World) (ao : Option Addr) (cap p : Nat) (T : List Nat) (s : ByteArray) (h : Byts w (.slice ao T.length cap) T) :
    Calls Tryz.prog 106 #[.slice ao T.length cap, .int .i64 (p : Int), .string s] w fun e w' => e = .returned (.bool (hasB T p s.data.toList)) ∧ w' = w := by
  by_cases hp : p < T.length
  · obtain ⟨ao', cap', e, hb, hc⟩ := h
    cases e
    obtain ⟨b, off, rfl, c0⟩ := hc p hp
    have d1 : (p : Int) < (T.length : Int) := by omega
    have d0 : (0 : Int) ≤ (p : Int) := by omega
    have HE : Hid (hasB T p s.data.toList = decide ((0 : Int) ≤ indexByte s.data.toList (UInt8.ofNat (nth T p)))) := by
      unfold hasB Hid
      rw [decide_eq_true hp, Bool.true_and]
    have HS := hide (fun w => sindex_calls w s (nth T p))
    generalize nth T p = x at *
    clear hp hc hb
    go_enter Tryz.func106, Tryz.ntmps106
    go_wp2_with fail
    refine (HS.out _).mono ?_
    rintro e w1 ⟨rfl, hw⟩
    rw [hw]
    clear hw
    generalize indexByte s.data.toList (UInt8.ofNat x) = z at *
    go_wp2
    go_ret
    exact ⟨by rw [HE.out]; rfl, rfl⟩
  · have HE : Hid (hasB T p s.data.toList = false) := by
      unfold hasB Hid
      rw [decide_eq_false hp, Bool.false_and]
    have d1 : ¬ (p : Int) < (T.length : Int) := by omega
    clear hp h
    go_enter Tryz.func106, Tryz.ntmps106
    go_wp2
    go_ret
    exact ⟨by rw [HE.out]; rfl, rfl⟩

def digS : List UInt8 := [48, 49, 50, 51, 52, 53, 54, 55, 56, 57]
/-- Where the digits end that begin at a place. -/
def digF (T : List Nat) : Nat → Nat → Nat
  | 0, p => p
  | n + 1, p => if hasB T p digS then digF T n (p + 1) else p
def digEnd (T : List Nat) (p : Nat) : Nat := digF T T.length p

theorem hasB_lt {T : List Nat} {p : Nat} {s : List UInt8} (h : hasB T p s = true) : p < T.length := by
  unfold hasB at h
  simp only [Bool.and_eq_true, decide_eq_true_eq] at h
  exact h.1
theorem digF_is {T : List Nat} {q : Nat} (hq : hasB T q digS = false) : ∀ (n p : Nat), p ≤ q → q ≤ n + p → (∀ j, p ≤ j → j < q → hasB T j digS = true) → digF T n p = q := by
  intro n
  induction n with
  | zero =>
    intro p h1 h2 h3
    show p = q
    omega
  | succ n ih =>
    intro p h1 h2 h3
    show (if hasB T p digS then digF T n (p + 1) else p) = q
    by_cases e : p = q
    · rw [e, hq]; rfl
    · rw [h3 p (Nat.le_refl _) (by omega)]
      exact ih (p + 1) (by omega) (by omega) (fun j h4 h5 => h3 j (by omega) h5)
theorem digEnd_is {T : List Nat} {p q : Nat} (h1 : p ≤ q) (h3 : ∀ j, p ≤ j → j < q → hasB T j digS = true) (hq : hasB T q digS = false) : digEnd T p = q := by
  refine digF_is hq T.length p h1 ?_ h3
  by_cases e : p = q
  · omega
  · have := hasB_lt (h3 (q - 1) (by omega) (by omega))
    omega
theorem digF_le (T : List Nat) : ∀ (n p : Nat), p ≤ T.length → p ≤ digF T n p ∧ digF T n p ≤ T.length := by
  intro n
  induction n with
  | zero => exact fun p h => ⟨Nat.le_refl _, h⟩
  | succ n ih =>
    intro p h
    show p ≤ (if hasB T p digS then digF T n (p + 1) else p) ∧ (if hasB T p digS then digF T n (p + 1) else p) ≤ T.length
    cases e : hasB T p digS with
    | true =>
      have := ih (p + 1) (hasB_lt e)
      simp only [if_true]
      omega
    | false => exact ⟨Nat.le_refl _, h⟩
theorem digEnd_le {T : List Nat} {p : Nat} (h : p ≤ T.length) : p ≤ digEnd T p ∧ digEnd T p ≤ T.length := digF_le T T.length p h

set_option maxHeartbeats 2000000 in
theorem digits_calls (w : World) (ao : Option Addr) (cap p : Nat) (T : List Nat) (h : Byts w (.slice ao T.length cap) T) (hp : p ≤ T.length) (hlen : T.length ≤ 1000000000) :
    Calls Tryz.prog 107 #[.slice ao T.length cap, .int .i64 (p : Int)] w fun e w' => e = .returned (.tuple #[.int .i64 ((digEnd T p : Nat) : Int), .bool (decide (p < digEnd T p))]) ∧ w' = w := by
  go_enter Tryz.func107, Tryz.ntmps107
  go_wp2
  go_loopw [1] (fun i wr => ∃ k : Nat, p ≤ k ∧ k ≤ T.length ∧ i = .int .i64 (k : Int) ∧ (∀ j, p ≤ j → j < k → hasB T j digS = true) ∧ wr = w) (fun i _ => T.length - (RowKit.intOf i).toNat)
  case atStart => exact ⟨p, Nat.le_refl _, hp, rfl, fun j h1 h2 => by omega, rfl⟩
  case round =>
    obtain ⟨k, hk0, hk, rfl, h3, rfl⟩ := hrel
    have H3 := hide h3
    have HF := hide (fun w (h : Byts w (.slice ao T.length cap) T) => isOne_calls w ao cap k T ⟨#[48, 49, 50, 51, 52, 53, 54, 55, 56, 57]⟩ h)
    have HB := hide h
    clear h3 h
    cases hd : hasB T k digS with
    | true =>
      have hd' : hasB T k ((⟨#[48, 49, 50, 51, 52, 53, 54, 55, 56, 57]⟩ : ByteArray).data.toList) = true := hd
      have hlt := hasB_lt hd
      rw [hd'] at HF
      have HD := hide hd
      clear hd hd'
      go_wp2_with fail
      refine (HF.out _ HB.out).mono ?_
      rintro e w1 ⟨rfl, hw⟩
      rw [hw]
      clear hw
      go_wp2
      go_roundw
      case rel =>
        refine ⟨k + 1, by omega, by omega, by go_num, fun j h1 h2 => ?_, trivial⟩
        rcases Nat.lt_succ_iff_lt_or_eq.1 h2 with g | g
        · exact H3.out j h1 g
        · rw [g]; exact HD.out
      case measure => simp [RowKit.intOf]; omega
    | false =>
      have hd' : hasB T k ((⟨#[48, 49, 50, 51, 52, 53, 54, 55, 56, 57]⟩ : ByteArray).data.toList) = false := hd
      rw [hd'] at HF
      have HE := hide (digEnd_is hk0 H3.out hd)
      have HD : Hid (((k : Int) > (p : Int)) ↔ p < k) := by unfold Hid; omega
      clear hd hd'
      go_wp2_with fail
      refine (HF.out _ HB.out).mono ?_
      rintro e w1 ⟨rfl, hw⟩
      rw [hw]
      clear hw
      go_wp2
      go_ret2
      refine ⟨?_, rfl⟩
      rw [HE.out]
      congr 4

/-- Where the number ends that begins at a place; with false the place where what must stand doesn't. -/
def num1 (T : List Nat) (p : Nat) : Nat := if hasB T p [45] then p + 1 else p
def num2 (T : List Nat) (p : Nat) : Nat × Bool := if hasB T p [48] then (p + 1, true) else (digEnd T p, decide (p < digEnd T p))
def num3 (T : List Nat) (x : Nat × Bool) : Nat × Bool := if x.2 && hasB T x.1 [46] then (digEnd T (x.1 + 1), decide (x.1 + 1 < digEnd T (x.1 + 1))) else x
def num5 (T : List Nat) (p : Nat) : Nat := if hasB T p [43, 45] then p + 1 else p
def num4 (T : List Nat) (x : Nat × Bool) : Nat × Bool := if x.2 && hasB T x.1 [101, 69] then (digEnd T (num5 T (x.1 + 1)), decide (num5 T (x.1 + 1) < digEnd T (num5 T (x.1 + 1)))) else x
def numEnd (T : List Nat) (p : Nat) : Nat × Bool := num4 T (num3 T (num2 T (num1 T p)))

theorem num1_le {T : List Nat} {p : Nat} (h : p ≤ T.length) : num1 T p ≤ T.length := by
  unfold num1
  cases e : hasB T p [45] with
  | true => exact hasB_lt e
  | false => exact h
theorem num5_le {T : List Nat} {p : Nat} (h : p ≤ T.length) : num5 T p ≤ T.length := by
  unfold num5
  cases e : hasB T p [43, 45] with
  | true => exact hasB_lt e
  | false => exact h
theorem num2_le {T : List Nat} {p : Nat} (h : p ≤ T.length) : (num2 T p).1 ≤ T.length := by
  unfold num2
  cases e : hasB T p [48] with
  | true => exact hasB_lt e
  | false => exact (digEnd_le h).2
theorem num3_le {T : List Nat} {x : Nat × Bool} (h : x.1 ≤ T.length) : (num3 T x).1 ≤ T.length := by
  unfold num3
  cases e : x.2 && hasB T x.1 [46] with
  | true => exact (digEnd_le (hasB_lt ((Bool.and_eq_true _ _ ▸ e : _ ∧ _).2))).2
  | false => exact h
theorem num4_le {T : List Nat} {x : Nat × Bool} (h : x.1 ≤ T.length) : (num4 T x).1 ≤ T.length := by
  unfold num4
  cases e : x.2 && hasB T x.1 [101, 69] with
  | true => exact (digEnd_le (num5_le (hasB_lt ((Bool.and_eq_true _ _ ▸ e : _ ∧ _).2)))).2
  | false => exact h
theorem numEnd_le {T : List Nat} {p : Nat} (h : p ≤ T.length) : (numEnd T p).1 ≤ T.length := num4_le (num3_le (num2_le (num1_le h)))

/-- isOne, at constants. -/
theorem isOne_at (w : World) (ao : Option Addr) (cap p : Nat) (T : List Nat) (s : ByteArray) (l : List UInt8) (hs : s.data.toList = l) (b : Bool) (hb : hasB T p l = b) (h : Byts w (.slice ao T.length cap) T) :
    Calls Tryz.prog 106 #[.slice ao T.length cap, .int .i64 (p : Int), .string s] w fun e w' => e = .returned (.bool b) ∧ w' = w := by
  rw [← hb, ← hs]
  exact isOne_calls w ao cap p T s h
theorem digits_at (w : World) (ao : Option Addr) (cap p : Nat) (T : List Nat) (q : Nat) (b : Bool) (hq : digEnd T p = q) (hb : decide (p < q) = b) (h : Byts w (.slice ao T.length cap) T) (hp : p ≤ T.length) (hlen : T.length ≤ 1000000000) :
    Calls Tryz.prog 107 #[.slice ao T.length cap, .int .i64 (p : Int)] w fun e w' => e = .returned (.tuple #[.int .i64 (q : Int), .bool b]) ∧ w' = w := by
  rw [← hb, ← hq]
  exact digits_calls w ao cap p T h hp hlen

set_option maxHeartbeats 8000000 in
theorem numberEnd_calls (w : World) (ao : Option Addr) (cap p : Nat) (T : List Nat) (h : Byts w (.slice ao T.length cap) T) (hp : p ≤ T.length) (hlen : T.length ≤ 1000000000) :
    Calls Tryz.prog 95 #[.slice ao T.length cap, .int .i64 (p : Int)] w fun e w' => e = .returned (.tuple #[.int .i64 (((numEnd T p).1 : Nat) : Int), .bool (numEnd T p).2]) ∧ w' = w := by
  have HB := hide h
  have HL := hide hlen
  obtain ⟨N, hN⟩ : ∃ N, numEnd T p = N := ⟨_, rfl⟩
  rw [hN]
  have HN := hide hN
  clear hN h
  have g0 : (p : Int) ≤ 1000000000 := by omega
  go_enter Tryz.func95, Tryz.ntmps95
  cases c1 : hasB T p [45] with
  | true =>
    have C1 := hide c1
    clear c1
    obtain ⟨p1, hp1⟩ : ∃ p1, p + 1 = p1 := ⟨_, rfl⟩
    have kp1 : (p : Int) + 1 = (p1 : Int) := by omega
    have lp1 : p1 ≤ T.length := by have := hasB_lt C1.out; omega
    have gp1 : (p1 : Int) ≤ 1000000000 := by have := HL.out; omega
    go_wp2_with fail
    refine (isOne_at _ ao cap p T ⟨#[45]⟩ _ rfl true C1.out HB.out).mono ?_
    rintro e w1 ⟨rfl, hw⟩
    rw [hw]
    clear hw
    cases c2 : hasB T p1 [48] with
    | true =>
      have C2 := hide c2
      clear c2
      obtain ⟨p2, hp2⟩ : ∃ p2, p1 + 1 = p2 := ⟨_, rfl⟩
      have kp2 : (p1 : Int) + 1 = (p2 : Int) := by omega
      have lp2 : p2 ≤ T.length := by have := hasB_lt C2.out; omega
      have gp2 : (p2 : Int) ≤ 1000000000 := by have := HL.out; omega
      go_wp2_with fail
      refine (isOne_at _ ao cap p1 T ⟨#[48]⟩ _ rfl true C2.out HB.out).mono ?_
      rintro e w1 ⟨rfl, hw⟩
      rw [hw]
      clear hw
      cases c4 : hasB T p2 [46] with
      | true =>
        have C4 := hide c4
        clear c4
        obtain ⟨p3, hp3⟩ : ∃ p3, p2 + 1 = p3 := ⟨_, rfl⟩
        have kp3 : (p2 : Int) + 1 = (p3 : Int) := by omega
        have lp3 : p3 ≤ T.length := by have := hasB_lt C4.out; omega
        have gp3 : (p3 : Int) ≤ 1000000000 := by have := HL.out; omega
        obtain ⟨p4, d4⟩ : ∃ p4, digEnd T p3 = p4 := ⟨_, rfl⟩
        have l4 : p4 ≤ T.length := by rw [← d4]; exact (digEnd_le (by omega)).2
        have gp4 : (p4 : Int) ≤ 1000000000 := by have := HL.out; omega
        have D4 := hide d4
        clear d4
        go_wp2_with fail
        refine (isOne_at _ ao cap p2 T ⟨#[46]⟩ _ rfl true C4.out HB.out).mono ?_
        rintro e w1 ⟨rfl, hw⟩
        rw [hw]
        clear hw
        cases c5 : decide (p3 < p4) with
        | true =>
          have C5 := hide c5
          clear c5
          go_wp2_with fail
          refine (digits_at _ ao cap p3 T p4 true D4.out C5.out HB.out (by have := HL.out; omega) HL.out).mono ?_
          rintro e w1 ⟨rfl, hw⟩
          rw [hw]
          clear hw
          cases c6 : hasB T p4 [101, 69] with
          | true =>
            have C6 := hide c6
            clear c6
            obtain ⟨p5, hp5⟩ : ∃ p5, p4 + 1 = p5 := ⟨_, rfl⟩
            have kp5 : (p4 : Int) + 1 = (p5 : Int) := by omega
            have lp5 : p5 ≤ T.length := by have := hasB_lt C6.out; omega
            have gp5 : (p5 : Int) ≤ 1000000000 := by have := HL.out; omega
            go_wp2_with fail
            refine (isOne_at _ ao cap p4 T ⟨#[101, 69]⟩ _ rfl true C6.out HB.out).mono ?_
            rintro e w1 ⟨rfl, hw⟩
            rw [hw]
            clear hw
            cases c7 : hasB T p5 [43, 45] with
            | true =>
              have C7 := hide c7
              clear c7
              obtain ⟨p6, hp6⟩ : ∃ p6, p5 + 1 = p6 := ⟨_, rfl⟩
              have kp6 : (p5 : Int) + 1 = (p6 : Int) := by omega
              have lp6 : p6 ≤ T.length := by have := hasB_lt C7.out; omega
              have gp6 : (p6 : Int) ≤ 1000000000 := by have := HL.out; omega
              go_wp2_with fail
              refine (isOne_at _ ao cap p5 T ⟨#[43, 45]⟩ _ rfl true C7.out HB.out).mono ?_
              rintro e w1 ⟨rfl, hw⟩
              rw [hw]
              clear hw
              obtain ⟨p8, d8⟩ : ∃ p8, digEnd T p6 = p8 := ⟨_, rfl⟩
              have D8 := hide d8
              clear d8
              obtain ⟨b8, c8⟩ : ∃ b8, decide (p6 < p8) = b8 := ⟨_, rfl⟩
              have C8 := hide c8
              clear c8
              go_wp2_with fail
              refine (digits_at _ ao cap p6 T p8 b8 D8.out C8.out HB.out (by have := HL.out; omega) HL.out).mono ?_
              rintro e w1 ⟨rfl, hw⟩
              rw [hw]
              clear hw
              go_wp2
              go_ret2
              refine ⟨?_, rfl⟩
              rw [← HN.out]
              simp [numEnd, num1, C1.out, hp1, num2, C2.out, hp2, num3, C4.out, hp3, D4.out, (of_decide_eq_true C5.out), num4, C6.out, hp5, num5, C7.out, hp6, D8.out, C8.out]
            | false =>
              have C7 := hide c7
              clear c7
              go_wp2_with fail
              refine (isOne_at _ ao cap p5 T ⟨#[43, 45]⟩ _ rfl false C7.out HB.out).mono ?_
              rintro e w1 ⟨rfl, hw⟩
              rw [hw]
              clear hw
              obtain ⟨p8, d8⟩ : ∃ p8, digEnd T p5 = p8 := ⟨_, rfl⟩
              have D8 := hide d8
              clear d8
              obtain ⟨b8, c8⟩ : ∃ b8, decide (p5 < p8) = b8 := ⟨_, rfl⟩
              have C8 := hide c8
              clear c8
              go_wp2_with fail
              refine (digits_at _ ao cap p5 T p8 b8 D8.out C8.out HB.out (by have := HL.out; omega) HL.out).mono ?_
              rintro e w1 ⟨rfl, hw⟩
              rw [hw]
              clear hw
              go_wp2
              go_ret2
              refine ⟨?_, rfl⟩
              rw [← HN.out]
              simp [numEnd, num1, C1.out, hp1, num2, C2.out, hp2, num3, C4.out, hp3, D4.out, (of_decide_eq_true C5.out), num4, C6.out, hp5, num5, C7.out, D8.out, C8.out]
          | false =>
            have C6 := hide c6
            clear c6
            go_wp2_with fail
            refine (isOne_at _ ao cap p4 T ⟨#[101, 69]⟩ _ rfl false C6.out HB.out).mono ?_
            rintro e w1 ⟨rfl, hw⟩
            rw [hw]
            clear hw
            go_wp2
            go_ret2
            refine ⟨?_, rfl⟩
            rw [← HN.out]
            simp [numEnd, num1, C1.out, hp1, num2, C2.out, hp2, num3, C4.out, hp3, D4.out, (of_decide_eq_true C5.out), num4, C6.out]
        | false =>
          have C5 := hide c5
          clear c5
          go_wp2_with fail
          refine (digits_at _ ao cap p3 T p4 false D4.out C5.out HB.out (by have := HL.out; omega) HL.out).mono ?_
          rintro e w1 ⟨rfl, hw⟩
          rw [hw]
          clear hw
          go_wp2
          go_ret2
          refine ⟨?_, rfl⟩
          rw [← HN.out]
          simp [numEnd, num1, C1.out, hp1, num2, C2.out, hp2, num3, C4.out, hp3, D4.out, (of_decide_eq_false C5.out), num4]
      | false =>
        have C4 := hide c4
        clear c4
        go_wp2_with fail
        refine (isOne_at _ ao cap p2 T ⟨#[46]⟩ _ rfl false C4.out HB.out).mono ?_
        rintro e w1 ⟨rfl, hw⟩
        rw [hw]
        clear hw
        cases c6 : hasB T p2 [101, 69] with
        | true =>
          have C6 := hide c6
          clear c6
          obtain ⟨p5, hp5⟩ : ∃ p5, p2 + 1 = p5 := ⟨_, rfl⟩
          have kp5 : (p2 : Int) + 1 = (p5 : Int) := by omega
          have lp5 : p5 ≤ T.length := by have := hasB_lt C6.out; omega
          have gp5 : (p5 : Int) ≤ 1000000000 := by have := HL.out; omega
          go_wp2_with fail
          refine (isOne_at _ ao cap p2 T ⟨#[101, 69]⟩ _ rfl true C6.out HB.out).mono ?_
          rintro e w1 ⟨rfl, hw⟩
          rw [hw]
          clear hw
          cases c7 : hasB T p5 [43, 45] with
          | true =>
            have C7 := hide c7
            clear c7
            obtain ⟨p6, hp6⟩ : ∃ p6, p5 + 1 = p6 := ⟨_, rfl⟩
            have kp6 : (p5 : Int) + 1 = (p6 : Int) := by omega
            have lp6 : p6 ≤ T.length := by have := hasB_lt C7.out; omega
            have gp6 : (p6 : Int) ≤ 1000000000 := by have := HL.out; omega
            go_wp2_with fail
            refine (isOne_at _ ao cap p5 T ⟨#[43, 45]⟩ _ rfl true C7.out HB.out).mono ?_
            rintro e w1 ⟨rfl, hw⟩
            rw [hw]
            clear hw
            obtain ⟨p8, d8⟩ : ∃ p8, digEnd T p6 = p8 := ⟨_, rfl⟩
            have D8 := hide d8
            clear d8
            obtain ⟨b8, c8⟩ : ∃ b8, decide (p6 < p8) = b8 := ⟨_, rfl⟩
            have C8 := hide c8
            clear c8
            go_wp2_with fail
            refine (digits_at _ ao cap p6 T p8 b8 D8.out C8.out HB.out (by have := HL.out; omega) HL.out).mono ?_
            rintro e w1 ⟨rfl, hw⟩
            rw [hw]
            clear hw
            go_wp2
            go_ret2
            refine ⟨?_, rfl⟩
            rw [← HN.out]
            simp [numEnd, num1, C1.out, hp1, num2, C2.out, hp2, num3, C4.out, num4, C6.out, hp5, num5, C7.out, hp6, D8.out, C8.out]
          | false =>
            have C7 := hide c7
            clear c7
            go_wp2_with fail
            refine (isOne_at _ ao cap p5 T ⟨#[43, 45]⟩ _ rfl false C7.out HB.out).mono ?_
            rintro e w1 ⟨rfl, hw⟩
            rw [hw]
            clear hw
            obtain ⟨p8, d8⟩ : ∃ p8, digEnd T p5 = p8 := ⟨_, rfl⟩
            have D8 := hide d8
            clear d8
            obtain ⟨b8, c8⟩ : ∃ b8, decide (p5 < p8) = b8 := ⟨_, rfl⟩
            have C8 := hide c8
            clear c8
            go_wp2_with fail
            refine (digits_at _ ao cap p5 T p8 b8 D8.out C8.out HB.out (by have := HL.out; omega) HL.out).mono ?_
            rintro e w1 ⟨rfl, hw⟩
            rw [hw]
            clear hw
            go_wp2
            go_ret2
            refine ⟨?_, rfl⟩
            rw [← HN.out]
            simp [numEnd, num1, C1.out, hp1, num2, C2.out, hp2, num3, C4.out, num4, C6.out, hp5, num5, C7.out, D8.out, C8.out]
        | false =>
          have C6 := hide c6
          clear c6
          go_wp2_with fail
          refine (isOne_at _ ao cap p2 T ⟨#[101, 69]⟩ _ rfl false C6.out HB.out).mono ?_
          rintro e w1 ⟨rfl, hw⟩
          rw [hw]
          clear hw
          go_wp2
          go_ret2
          refine ⟨?_, rfl⟩
          rw [← HN.out]
          simp [numEnd, num1, C1.out, hp1, num2, C2.out, hp2, num3, C4.out, num4, C6.out]
    | false =>
      have C2 := hide c2
      clear c2
      obtain ⟨p2, d2⟩ : ∃ p2, digEnd T p1 = p2 := ⟨_, rfl⟩
      have l2 : p2 ≤ T.length := by rw [← d2]; exact (digEnd_le (by omega)).2
      have gp2 : (p2 : Int) ≤ 1000000000 := by have := HL.out; omega
      have D2 := hide d2
      clear d2
      go_wp2_with fail
      refine (isOne_at _ ao cap p1 T ⟨#[48]⟩ _ rfl false C2.out HB.out).mono ?_
      rintro e w1 ⟨rfl, hw⟩
      rw [hw]
      clear hw
      cases c3 : decide (p1 < p2) with
      | true =>
        have C3 := hide c3
        clear c3
        go_wp2_with fail
        refine (digits_at _ ao cap p1 T p2 true D2.out C3.out HB.out (by have := HL.out; omega) HL.out).mono ?_
        rintro e w1 ⟨rfl, hw⟩
        rw [hw]
        clear hw
        cases c4 : hasB T p2 [46] with
        | true =>
          have C4 := hide c4
          clear c4
          obtain ⟨p3, hp3⟩ : ∃ p3, p2 + 1 = p3 := ⟨_, rfl⟩
          have kp3 : (p2 : Int) + 1 = (p3 : Int) := by omega
          have lp3 : p3 ≤ T.length := by have := hasB_lt C4.out; omega
          have gp3 : (p3 : Int) ≤ 1000000000 := by have := HL.out; omega
          obtain ⟨p4, d4⟩ : ∃ p4, digEnd T p3 = p4 := ⟨_, rfl⟩
          have l4 : p4 ≤ T.length := by rw [← d4]; exact (digEnd_le (by omega)).2
          have gp4 : (p4 : Int) ≤ 1000000000 := by have := HL.out; omega
          have D4 := hide d4
          clear d4
          go_wp2_with fail
          refine (isOne_at _ ao cap p2 T ⟨#[46]⟩ _ rfl true C4.out HB.out).mono ?_
          rintro e w1 ⟨rfl, hw⟩
          rw [hw]
          clear hw
          cases c5 : decide (p3 < p4) with
          | true =>
            have C5 := hide c5
            clear c5
            go_wp2_with fail
            refine (digits_at _ ao cap p3 T p4 true D4.out C5.out HB.out (by have := HL.out; omega) HL.out).mono ?_
            rintro e w1 ⟨rfl, hw⟩
            rw [hw]
            clear hw
            cases c6 : hasB T p4 [101, 69] with
            | true =>
              have C6 := hide c6
              clear c6
              obtain ⟨p5, hp5⟩ : ∃ p5, p4 + 1 = p5 := ⟨_, rfl⟩
              have kp5 : (p4 : Int) + 1 = (p5 : Int) := by omega
              have lp5 : p5 ≤ T.length := by have := hasB_lt C6.out; omega
              have gp5 : (p5 : Int) ≤ 1000000000 := by have := HL.out; omega
              go_wp2_with fail
              refine (isOne_at _ ao cap p4 T ⟨#[101, 69]⟩ _ rfl true C6.out HB.out).mono ?_
              rintro e w1 ⟨rfl, hw⟩
              rw [hw]
              clear hw
              cases c7 : hasB T p5 [43, 45] with
              | true =>
                have C7 := hide c7
                clear c7
                obtain ⟨p6, hp6⟩ : ∃ p6, p5 + 1 = p6 := ⟨_, rfl⟩
                have kp6 : (p5 : Int) + 1 = (p6 : Int) := by omega
                have lp6 : p6 ≤ T.length := by have := hasB_lt C7.out; omega
                have gp6 : (p6 : Int) ≤ 1000000000 := by have := HL.out; omega
                go_wp2_with fail
                refine (isOne_at _ ao cap p5 T ⟨#[43, 45]⟩ _ rfl true C7.out HB.out).mono ?_
                rintro e w1 ⟨rfl, hw⟩
                rw [hw]
                clear hw
                obtain ⟨p8, d8⟩ : ∃ p8, digEnd T p6 = p8 := ⟨_, rfl⟩
                have D8 := hide d8
                clear d8
                obtain ⟨b8, c8⟩ : ∃ b8, decide (p6 < p8) = b8 := ⟨_, rfl⟩
                have C8 := hide c8
                clear c8
                go_wp2_with fail
                refine (digits_at _ ao cap p6 T p8 b8 D8.out C8.out HB.out (by have := HL.out; omega) HL.out).mono ?_
                rintro e w1 ⟨rfl, hw⟩
                rw [hw]
                clear hw
                go_wp2
                go_ret2
                refine ⟨?_, rfl⟩
                rw [← HN.out]
                simp [numEnd, num1, C1.out, hp1, num2, C2.out, D2.out, (of_decide_eq_true C3.out), num3, C4.out, hp3, D4.out, (of_decide_eq_true C5.out), num4, C6.out, hp5, num5, C7.out, hp6, D8.out, C8.out]
              | false =>
                have C7 := hide c7
                clear c7
                go_wp2_with fail
                refine (isOne_at _ ao cap p5 T ⟨#[43, 45]⟩ _ rfl false C7.out HB.out).mono ?_
                rintro e w1 ⟨rfl, hw⟩
                rw [hw]
                clear hw
                obtain ⟨p8, d8⟩ : ∃ p8, digEnd T p5 = p8 := ⟨_, rfl⟩
                have D8 := hide d8
                clear d8
                obtain ⟨b8, c8⟩ : ∃ b8, decide (p5 < p8) = b8 := ⟨_, rfl⟩
                have C8 := hide c8
                clear c8
                go_wp2_with fail
                refine (digits_at _ ao cap p5 T p8 b8 D8.out C8.out HB.out (by have := HL.out; omega) HL.out).mono ?_
                rintro e w1 ⟨rfl, hw⟩
                rw [hw]
                clear hw
                go_wp2
                go_ret2
                refine ⟨?_, rfl⟩
                rw [← HN.out]
                simp [numEnd, num1, C1.out, hp1, num2, C2.out, D2.out, (of_decide_eq_true C3.out), num3, C4.out, hp3, D4.out, (of_decide_eq_true C5.out), num4, C6.out, hp5, num5, C7.out, D8.out, C8.out]
            | false =>
              have C6 := hide c6
              clear c6
              go_wp2_with fail
              refine (isOne_at _ ao cap p4 T ⟨#[101, 69]⟩ _ rfl false C6.out HB.out).mono ?_
              rintro e w1 ⟨rfl, hw⟩
              rw [hw]
              clear hw
              go_wp2
              go_ret2
              refine ⟨?_, rfl⟩
              rw [← HN.out]
              simp [numEnd, num1, C1.out, hp1, num2, C2.out, D2.out, (of_decide_eq_true C3.out), num3, C4.out, hp3, D4.out, (of_decide_eq_true C5.out), num4, C6.out]
          | false =>
            have C5 := hide c5
            clear c5
            go_wp2_with fail
            refine (digits_at _ ao cap p3 T p4 false D4.out C5.out HB.out (by have := HL.out; omega) HL.out).mono ?_
            rintro e w1 ⟨rfl, hw⟩
            rw [hw]
            clear hw
            go_wp2
            go_ret2
            refine ⟨?_, rfl⟩
            rw [← HN.out]
            simp [numEnd, num1, C1.out, hp1, num2, C2.out, D2.out, (of_decide_eq_true C3.out), num3, C4.out, hp3, D4.out, (of_decide_eq_false C5.out), num4]
        | false =>
          have C4 := hide c4
          clear c4
          go_wp2_with fail
          refine (isOne_at _ ao cap p2 T ⟨#[46]⟩ _ rfl false C4.out HB.out).mono ?_
          rintro e w1 ⟨rfl, hw⟩
          rw [hw]
          clear hw
          cases c6 : hasB T p2 [101, 69] with
          | true =>
            have C6 := hide c6
            clear c6
            obtain ⟨p5, hp5⟩ : ∃ p5, p2 + 1 = p5 := ⟨_, rfl⟩
            have kp5 : (p2 : Int) + 1 = (p5 : Int) := by omega
            have lp5 : p5 ≤ T.length := by have := hasB_lt C6.out; omega
            have gp5 : (p5 : Int) ≤ 1000000000 := by have := HL.out; omega
            go_wp2_with fail
            refine (isOne_at _ ao cap p2 T ⟨#[101, 69]⟩ _ rfl true C6.out HB.out).mono ?_
            rintro e w1 ⟨rfl, hw⟩
            rw [hw]
            clear hw
            cases c7 : hasB T p5 [43, 45] with
            | true =>
              have C7 := hide c7
              clear c7
              obtain ⟨p6, hp6⟩ : ∃ p6, p5 + 1 = p6 := ⟨_, rfl⟩
              have kp6 : (p5 : Int) + 1 = (p6 : Int) := by omega
              have lp6 : p6 ≤ T.length := by have := hasB_lt C7.out; omega
              have gp6 : (p6 : Int) ≤ 1000000000 := by have := HL.out; omega
              go_wp2_with fail
              refine (isOne_at _ ao cap p5 T ⟨#[43, 45]⟩ _ rfl true C7.out HB.out).mono ?_
              rintro e w1 ⟨rfl, hw⟩
              rw [hw]
              clear hw
              obtain ⟨p8, d8⟩ : ∃ p8, digEnd T p6 = p8 := ⟨_, rfl⟩
              have D8 := hide d8
              clear d8
              obtain ⟨b8, c8⟩ : ∃ b8, decide (p6 < p8) = b8 := ⟨_, rfl⟩
              have C8 := hide c8
              clear c8
              go_wp2_with fail
              refine (digits_at _ ao cap p6 T p8 b8 D8.out C8.out HB.out (by have := HL.out; omega) HL.out).mono ?_
              rintro e w1 ⟨rfl, hw⟩
              rw [hw]
              clear hw
              go_wp2
              go_ret2
              refine ⟨?_, rfl⟩
              rw [← HN.out]
              simp [numEnd, num1, C1.out, hp1, num2, C2.out, D2.out, (of_decide_eq_true C3.out), num3, C4.out, num4, C6.out, hp5, num5, C7.out, hp6, D8.out, C8.out]
            | false =>
              have C7 := hide c7
              clear c7
              go_wp2_with fail
              refine (isOne_at _ ao cap p5 T ⟨#[43, 45]⟩ _ rfl false C7.out HB.out).mono ?_
              rintro e w1 ⟨rfl, hw⟩
              rw [hw]
              clear hw
              obtain ⟨p8, d8⟩ : ∃ p8, digEnd T p5 = p8 := ⟨_, rfl⟩
              have D8 := hide d8
              clear d8
              obtain ⟨b8, c8⟩ : ∃ b8, decide (p5 < p8) = b8 := ⟨_, rfl⟩
              have C8 := hide c8
              clear c8
              go_wp2_with fail
              refine (digits_at _ ao cap p5 T p8 b8 D8.out C8.out HB.out (by have := HL.out; omega) HL.out).mono ?_
              rintro e w1 ⟨rfl, hw⟩
              rw [hw]
              clear hw
              go_wp2
              go_ret2
              refine ⟨?_, rfl⟩
              rw [← HN.out]
              simp [numEnd, num1, C1.out, hp1, num2, C2.out, D2.out, (of_decide_eq_true C3.out), num3, C4.out, num4, C6.out, hp5, num5, C7.out, D8.out, C8.out]
          | false =>
            have C6 := hide c6
            clear c6
            go_wp2_with fail
            refine (isOne_at _ ao cap p2 T ⟨#[101, 69]⟩ _ rfl false C6.out HB.out).mono ?_
            rintro e w1 ⟨rfl, hw⟩
            rw [hw]
            clear hw
            go_wp2
            go_ret2
            refine ⟨?_, rfl⟩
            rw [← HN.out]
            simp [numEnd, num1, C1.out, hp1, num2, C2.out, D2.out, (of_decide_eq_true C3.out), num3, C4.out, num4, C6.out]
      | false =>
        have C3 := hide c3
        clear c3
        go_wp2_with fail
        refine (digits_at _ ao cap p1 T p2 false D2.out C3.out HB.out (by have := HL.out; omega) HL.out).mono ?_
        rintro e w1 ⟨rfl, hw⟩
        rw [hw]
        clear hw
        go_wp2
        go_ret2
        refine ⟨?_, rfl⟩
        rw [← HN.out]
        simp [numEnd, num1, C1.out, hp1, num2, C2.out, D2.out, (of_decide_eq_false C3.out), num3, num4]
  | false =>
    have C1 := hide c1
    clear c1
    go_wp2_with fail
    refine (isOne_at _ ao cap p T ⟨#[45]⟩ _ rfl false C1.out HB.out).mono ?_
    rintro e w1 ⟨rfl, hw⟩
    rw [hw]
    clear hw
    cases c2 : hasB T p [48] with
    | true =>
      have C2 := hide c2
      clear c2
      obtain ⟨p2, hp2⟩ : ∃ p2, p + 1 = p2 := ⟨_, rfl⟩
      have kp2 : (p : Int) + 1 = (p2 : Int) := by omega
      have lp2 : p2 ≤ T.length := by have := hasB_lt C2.out; omega
      have gp2 : (p2 : Int) ≤ 1000000000 := by have := HL.out; omega
      go_wp2_with fail
      refine (isOne_at _ ao cap p T ⟨#[48]⟩ _ rfl true C2.out HB.out).mono ?_
      rintro e w1 ⟨rfl, hw⟩
      rw [hw]
      clear hw
      cases c4 : hasB T p2 [46] with
      | true =>
        have C4 := hide c4
        clear c4
        obtain ⟨p3, hp3⟩ : ∃ p3, p2 + 1 = p3 := ⟨_, rfl⟩
        have kp3 : (p2 : Int) + 1 = (p3 : Int) := by omega
        have lp3 : p3 ≤ T.length := by have := hasB_lt C4.out; omega
        have gp3 : (p3 : Int) ≤ 1000000000 := by have := HL.out; omega
        obtain ⟨p4, d4⟩ : ∃ p4, digEnd T p3 = p4 := ⟨_, rfl⟩
        have l4 : p4 ≤ T.length := by rw [← d4]; exact (digEnd_le (by omega)).2
        have gp4 : (p4 : Int) ≤ 1000000000 := by have := HL.out; omega
        have D4 := hide d4
        clear d4
        go_wp2_with fail
        refine (isOne_at _ ao cap p2 T ⟨#[46]⟩ _ rfl true C4.out HB.out).mono ?_
        rintro e w1 ⟨rfl, hw⟩
        rw [hw]
        clear hw
        cases c5 : decide (p3 < p4) with
        | true =>
          have C5 := hide c5
          clear c5
          go_wp2_with fail
          refine (digits_at _ ao cap p3 T p4 true D4.out C5.out HB.out (by have := HL.out; omega) HL.out).mono ?_
          rintro e w1 ⟨rfl, hw⟩
          rw [hw]
          clear hw
          cases c6 : hasB T p4 [101, 69] with
          | true =>
            have C6 := hide c6
            clear c6
            obtain ⟨p5, hp5⟩ : ∃ p5, p4 + 1 = p5 := ⟨_, rfl⟩
            have kp5 : (p4 : Int) + 1 = (p5 : Int) := by omega
            have lp5 : p5 ≤ T.length := by have := hasB_lt C6.out; omega
            have gp5 : (p5 : Int) ≤ 1000000000 := by have := HL.out; omega
            go_wp2_with fail
            refine (isOne_at _ ao cap p4 T ⟨#[101, 69]⟩ _ rfl true C6.out HB.out).mono ?_
            rintro e w1 ⟨rfl, hw⟩
            rw [hw]
            clear hw
            cases c7 : hasB T p5 [43, 45] with
            | true =>
              have C7 := hide c7
              clear c7
              obtain ⟨p6, hp6⟩ : ∃ p6, p5 + 1 = p6 := ⟨_, rfl⟩
              have kp6 : (p5 : Int) + 1 = (p6 : Int) := by omega
              have lp6 : p6 ≤ T.length := by have := hasB_lt C7.out; omega
              have gp6 : (p6 : Int) ≤ 1000000000 := by have := HL.out; omega
              go_wp2_with fail
              refine (isOne_at _ ao cap p5 T ⟨#[43, 45]⟩ _ rfl true C7.out HB.out).mono ?_
              rintro e w1 ⟨rfl, hw⟩
              rw [hw]
              clear hw
              obtain ⟨p8, d8⟩ : ∃ p8, digEnd T p6 = p8 := ⟨_, rfl⟩
              have D8 := hide d8
              clear d8
              obtain ⟨b8, c8⟩ : ∃ b8, decide (p6 < p8) = b8 := ⟨_, rfl⟩
              have C8 := hide c8
              clear c8
              go_wp2_with fail
              refine (digits_at _ ao cap p6 T p8 b8 D8.out C8.out HB.out (by have := HL.out; omega) HL.out).mono ?_
              rintro e w1 ⟨rfl, hw⟩
              rw [hw]
              clear hw
              go_wp2
              go_ret2
              refine ⟨?_, rfl⟩
              rw [← HN.out]
              simp [numEnd, num1, C1.out, num2, C2.out, hp2, num3, C4.out, hp3, D4.out, (of_decide_eq_true C5.out), num4, C6.out, hp5, num5, C7.out, hp6, D8.out, C8.out]
            | false =>
              have C7 := hide c7
              clear c7
              go_wp2_with fail
              refine (isOne_at _ ao cap p5 T ⟨#[43, 45]⟩ _ rfl false C7.out HB.out).mono ?_
              rintro e w1 ⟨rfl, hw⟩
              rw [hw]
              clear hw
              obtain ⟨p8, d8⟩ : ∃ p8, digEnd T p5 = p8 := ⟨_, rfl⟩
              have D8 := hide d8
              clear d8
              obtain ⟨b8, c8⟩ : ∃ b8, decide (p5 < p8) = b8 := ⟨_, rfl⟩
              have C8 := hide c8
              clear c8
              go_wp2_with fail
              refine (digits_at _ ao cap p5 T p8 b8 D8.out C8.out HB.out (by have := HL.out; omega) HL.out).mono ?_
              rintro e w1 ⟨rfl, hw⟩
              rw [hw]
              clear hw
              go_wp2
              go_ret2
              refine ⟨?_, rfl⟩
              rw [← HN.out]
              simp [numEnd, num1, C1.out, num2, C2.out, hp2, num3, C4.out, hp3, D4.out, (of_decide_eq_true C5.out), num4, C6.out, hp5, num5, C7.out, D8.out, C8.out]
          | false =>
            have C6 := hide c6
            clear c6
            go_wp2_with fail
            refine (isOne_at _ ao cap p4 T ⟨#[101, 69]⟩ _ rfl false C6.out HB.out).mono ?_
            rintro e w1 ⟨rfl, hw⟩
            rw [hw]
            clear hw
            go_wp2
            go_ret2
            refine ⟨?_, rfl⟩
            rw [← HN.out]
            simp [numEnd, num1, C1.out, num2, C2.out, hp2, num3, C4.out, hp3, D4.out, (of_decide_eq_true C5.out), num4, C6.out]
        | false =>
          have C5 := hide c5
          clear c5
          go_wp2_with fail
          refine (digits_at _ ao cap p3 T p4 false D4.out C5.out HB.out (by have := HL.out; omega) HL.out).mono ?_
          rintro e w1 ⟨rfl, hw⟩
          rw [hw]
          clear hw
          go_wp2
          go_ret2
          refine ⟨?_, rfl⟩
          rw [← HN.out]
          simp [numEnd, num1, C1.out, num2, C2.out, hp2, num3, C4.out, hp3, D4.out, (of_decide_eq_false C5.out), num4]
      | false =>
        have C4 := hide c4
        clear c4
        go_wp2_with fail
        refine (isOne_at _ ao cap p2 T ⟨#[46]⟩ _ rfl false C4.out HB.out).mono ?_
        rintro e w1 ⟨rfl, hw⟩
        rw [hw]
        clear hw
        cases c6 : hasB T p2 [101, 69] with
        | true =>
          have C6 := hide c6
          clear c6
          obtain ⟨p5, hp5⟩ : ∃ p5, p2 + 1 = p5 := ⟨_, rfl⟩
          have kp5 : (p2 : Int) + 1 = (p5 : Int) := by omega
          have lp5 : p5 ≤ T.length := by have := hasB_lt C6.out; omega
          have gp5 : (p5 : Int) ≤ 1000000000 := by have := HL.out; omega
          go_wp2_with fail
          refine (isOne_at _ ao cap p2 T ⟨#[101, 69]⟩ _ rfl true C6.out HB.out).mono ?_
          rintro e w1 ⟨rfl, hw⟩
          rw [hw]
          clear hw
          cases c7 : hasB T p5 [43, 45] with
          | true =>
            have C7 := hide c7
            clear c7
            obtain ⟨p6, hp6⟩ : ∃ p6, p5 + 1 = p6 := ⟨_, rfl⟩
            have kp6 : (p5 : Int) + 1 = (p6 : Int) := by omega
            have lp6 : p6 ≤ T.length := by have := hasB_lt C7.out; omega
            have gp6 : (p6 : Int) ≤ 1000000000 := by have := HL.out; omega
            go_wp2_with fail
            refine (isOne_at _ ao cap p5 T ⟨#[43, 45]⟩ _ rfl true C7.out HB.out).mono ?_
            rintro e w1 ⟨rfl, hw⟩
            rw [hw]
            clear hw
            obtain ⟨p8, d8⟩ : ∃ p8, digEnd T p6 = p8 := ⟨_, rfl⟩
            have D8 := hide d8
            clear d8
            obtain ⟨b8, c8⟩ : ∃ b8, decide (p6 < p8) = b8 := ⟨_, rfl⟩
            have C8 := hide c8
            clear c8
            go_wp2_with fail
            refine (digits_at _ ao cap p6 T p8 b8 D8.out C8.out HB.out (by have := HL.out; omega) HL.out).mono ?_
            rintro e w1 ⟨rfl, hw⟩
            rw [hw]
            clear hw
            go_wp2
            go_ret2
            refine ⟨?_, rfl⟩
            rw [← HN.out]
            simp [numEnd, num1, C1.out, num2, C2.out, hp2, num3, C4.out, num4, C6.out, hp5, num5, C7.out, hp6, D8.out, C8.out]
          | false =>
            have C7 := hide c7
            clear c7
            go_wp2_with fail
            refine (isOne_at _ ao cap p5 T ⟨#[43, 45]⟩ _ rfl false C7.out HB.out).mono ?_
            rintro e w1 ⟨rfl, hw⟩
            rw [hw]
            clear hw
            obtain ⟨p8, d8⟩ : ∃ p8, digEnd T p5 = p8 := ⟨_, rfl⟩
            have D8 := hide d8
            clear d8
            obtain ⟨b8, c8⟩ : ∃ b8, decide (p5 < p8) = b8 := ⟨_, rfl⟩
            have C8 := hide c8
            clear c8
            go_wp2_with fail
            refine (digits_at _ ao cap p5 T p8 b8 D8.out C8.out HB.out (by have := HL.out; omega) HL.out).mono ?_
            rintro e w1 ⟨rfl, hw⟩
            rw [hw]
            clear hw
            go_wp2
            go_ret2
            refine ⟨?_, rfl⟩
            rw [← HN.out]
            simp [numEnd, num1, C1.out, num2, C2.out, hp2, num3, C4.out, num4, C6.out, hp5, num5, C7.out, D8.out, C8.out]
        | false =>
          have C6 := hide c6
          clear c6
          go_wp2_with fail
          refine (isOne_at _ ao cap p2 T ⟨#[101, 69]⟩ _ rfl false C6.out HB.out).mono ?_
          rintro e w1 ⟨rfl, hw⟩
          rw [hw]
          clear hw
          go_wp2
          go_ret2
          refine ⟨?_, rfl⟩
          rw [← HN.out]
          simp [numEnd, num1, C1.out, num2, C2.out, hp2, num3, C4.out, num4, C6.out]
    | false =>
      have C2 := hide c2
      clear c2
      obtain ⟨p2, d2⟩ : ∃ p2, digEnd T p = p2 := ⟨_, rfl⟩
      have l2 : p2 ≤ T.length := by rw [← d2]; exact (digEnd_le (by omega)).2
      have gp2 : (p2 : Int) ≤ 1000000000 := by have := HL.out; omega
      have D2 := hide d2
      clear d2
      go_wp2_with fail
      refine (isOne_at _ ao cap p T ⟨#[48]⟩ _ rfl false C2.out HB.out).mono ?_
      rintro e w1 ⟨rfl, hw⟩
      rw [hw]
      clear hw
      cases c3 : decide (p < p2) with
      | true =>
        have C3 := hide c3
        clear c3
        go_wp2_with fail
        refine (digits_at _ ao cap p T p2 true D2.out C3.out HB.out (by have := HL.out; omega) HL.out).mono ?_
        rintro e w1 ⟨rfl, hw⟩
        rw [hw]
        clear hw
        cases c4 : hasB T p2 [46] with
        | true =>
          have C4 := hide c4
          clear c4
          obtain ⟨p3, hp3⟩ : ∃ p3, p2 + 1 = p3 := ⟨_, rfl⟩
          have kp3 : (p2 : Int) + 1 = (p3 : Int) := by omega
          have lp3 : p3 ≤ T.length := by have := hasB_lt C4.out; omega
          have gp3 : (p3 : Int) ≤ 1000000000 := by have := HL.out; omega
          obtain ⟨p4, d4⟩ : ∃ p4, digEnd T p3 = p4 := ⟨_, rfl⟩
          have l4 : p4 ≤ T.length := by rw [← d4]; exact (digEnd_le (by omega)).2
          have gp4 : (p4 : Int) ≤ 1000000000 := by have := HL.out; omega
          have D4 := hide d4
          clear d4
          go_wp2_with fail
          refine (isOne_at _ ao cap p2 T ⟨#[46]⟩ _ rfl true C4.out HB.out).mono ?_
          rintro e w1 ⟨rfl, hw⟩
          rw [hw]
          clear hw
          cases c5 : decide (p3 < p4) with
          | true =>
            have C5 := hide c5
            clear c5
            go_wp2_with fail
            refine (digits_at _ ao cap p3 T p4 true D4.out C5.out HB.out (by have := HL.out; omega) HL.out).mono ?_
            rintro e w1 ⟨rfl, hw⟩
            rw [hw]
            clear hw
            cases c6 : hasB T p4 [101, 69] with
            | true =>
              have C6 := hide c6
              clear c6
              obtain ⟨p5, hp5⟩ : ∃ p5, p4 + 1 = p5 := ⟨_, rfl⟩
              have kp5 : (p4 : Int) + 1 = (p5 : Int) := by omega
              have lp5 : p5 ≤ T.length := by have := hasB_lt C6.out; omega
              have gp5 : (p5 : Int) ≤ 1000000000 := by have := HL.out; omega
              go_wp2_with fail
              refine (isOne_at _ ao cap p4 T ⟨#[101, 69]⟩ _ rfl true C6.out HB.out).mono ?_
              rintro e w1 ⟨rfl, hw⟩
              rw [hw]
              clear hw
              cases c7 : hasB T p5 [43, 45] with
              | true =>
                have C7 := hide c7
                clear c7
                obtain ⟨p6, hp6⟩ : ∃ p6, p5 + 1 = p6 := ⟨_, rfl⟩
                have kp6 : (p5 : Int) + 1 = (p6 : Int) := by omega
                have lp6 : p6 ≤ T.length := by have := hasB_lt C7.out; omega
                have gp6 : (p6 : Int) ≤ 1000000000 := by have := HL.out; omega
                go_wp2_with fail
                refine (isOne_at _ ao cap p5 T ⟨#[43, 45]⟩ _ rfl true C7.out HB.out).mono ?_
                rintro e w1 ⟨rfl, hw⟩
                rw [hw]
                clear hw
                obtain ⟨p8, d8⟩ : ∃ p8, digEnd T p6 = p8 := ⟨_, rfl⟩
                have D8 := hide d8
                clear d8
                obtain ⟨b8, c8⟩ : ∃ b8, decide (p6 < p8) = b8 := ⟨_, rfl⟩
                have C8 := hide c8
                clear c8
                go_wp2_with fail
                refine (digits_at _ ao cap p6 T p8 b8 D8.out C8.out HB.out (by have := HL.out; omega) HL.out).mono ?_
                rintro e w1 ⟨rfl, hw⟩
                rw [hw]
                clear hw
                go_wp2
                go_ret2
                refine ⟨?_, rfl⟩
                rw [← HN.out]
                simp [numEnd, num1, C1.out, num2, C2.out, D2.out, (of_decide_eq_true C3.out), num3, C4.out, hp3, D4.out, (of_decide_eq_true C5.out), num4, C6.out, hp5, num5, C7.out, hp6, D8.out, C8.out]
              | false =>
                have C7 := hide c7
                clear c7
                go_wp2_with fail
                refine (isOne_at _ ao cap p5 T ⟨#[43, 45]⟩ _ rfl false C7.out HB.out).mono ?_
                rintro e w1 ⟨rfl, hw⟩
                rw [hw]
                clear hw
                obtain ⟨p8, d8⟩ : ∃ p8, digEnd T p5 = p8 := ⟨_, rfl⟩
                have D8 := hide d8
                clear d8
                obtain ⟨b8, c8⟩ : ∃ b8, decide (p5 < p8) = b8 := ⟨_, rfl⟩
                have C8 := hide c8
                clear c8
                go_wp2_with fail
                refine (digits_at _ ao cap p5 T p8 b8 D8.out C8.out HB.out (by have := HL.out; omega) HL.out).mono ?_
                rintro e w1 ⟨rfl, hw⟩
                rw [hw]
                clear hw
                go_wp2
                go_ret2
                refine ⟨?_, rfl⟩
                rw [← HN.out]
                simp [numEnd, num1, C1.out, num2, C2.out, D2.out, (of_decide_eq_true C3.out), num3, C4.out, hp3, D4.out, (of_decide_eq_true C5.out), num4, C6.out, hp5, num5, C7.out, D8.out, C8.out]
            | false =>
              have C6 := hide c6
              clear c6
              go_wp2_with fail
              refine (isOne_at _ ao cap p4 T ⟨#[101, 69]⟩ _ rfl false C6.out HB.out).mono ?_
              rintro e w1 ⟨rfl, hw⟩
              rw [hw]
              clear hw
              go_wp2
              go_ret2
              refine ⟨?_, rfl⟩
              rw [← HN.out]
              simp [numEnd, num1, C1.out, num2, C2.out, D2.out, (of_decide_eq_true C3.out), num3, C4.out, hp3, D4.out, (of_decide_eq_true C5.out), num4, C6.out]
          | false =>
            have C5 := hide c5
            clear c5
            go_wp2_with fail
            refine (digits_at _ ao cap p3 T p4 false D4.out C5.out HB.out (by have := HL.out; omega) HL.out).mono ?_
            rintro e w1 ⟨rfl, hw⟩
            rw [hw]
            clear hw
            go_wp2
            go_ret2
            refine ⟨?_, rfl⟩
            rw [← HN.out]
            simp [numEnd, num1, C1.out, num2, C2.out, D2.out, (of_decide_eq_true C3.out), num3, C4.out, hp3, D4.out, (of_decide_eq_false C5.out), num4]
        | false =>
          have C4 := hide c4
          clear c4
          go_wp2_with fail
          refine (isOne_at _ ao cap p2 T ⟨#[46]⟩ _ rfl false C4.out HB.out).mono ?_
          rintro e w1 ⟨rfl, hw⟩
          rw [hw]
          clear hw
          cases c6 : hasB T p2 [101, 69] with
          | true =>
            have C6 := hide c6
            clear c6
            obtain ⟨p5, hp5⟩ : ∃ p5, p2 + 1 = p5 := ⟨_, rfl⟩
            have kp5 : (p2 : Int) + 1 = (p5 : Int) := by omega
            have lp5 : p5 ≤ T.length := by have := hasB_lt C6.out; omega
            have gp5 : (p5 : Int) ≤ 1000000000 := by have := HL.out; omega
            go_wp2_with fail
            refine (isOne_at _ ao cap p2 T ⟨#[101, 69]⟩ _ rfl true C6.out HB.out).mono ?_
            rintro e w1 ⟨rfl, hw⟩
            rw [hw]
            clear hw
            cases c7 : hasB T p5 [43, 45] with
            | true =>
              have C7 := hide c7
              clear c7
              obtain ⟨p6, hp6⟩ : ∃ p6, p5 + 1 = p6 := ⟨_, rfl⟩
              have kp6 : (p5 : Int) + 1 = (p6 : Int) := by omega
              have lp6 : p6 ≤ T.length := by have := hasB_lt C7.out; omega
              have gp6 : (p6 : Int) ≤ 1000000000 := by have := HL.out; omega
              go_wp2_with fail
              refine (isOne_at _ ao cap p5 T ⟨#[43, 45]⟩ _ rfl true C7.out HB.out).mono ?_
              rintro e w1 ⟨rfl, hw⟩
              rw [hw]
              clear hw
              obtain ⟨p8, d8⟩ : ∃ p8, digEnd T p6 = p8 := ⟨_, rfl⟩
              have D8 := hide d8
              clear d8
              obtain ⟨b8, c8⟩ : ∃ b8, decide (p6 < p8) = b8 := ⟨_, rfl⟩
              have C8 := hide c8
              clear c8
              go_wp2_with fail
              refine (digits_at _ ao cap p6 T p8 b8 D8.out C8.out HB.out (by have := HL.out; omega) HL.out).mono ?_
              rintro e w1 ⟨rfl, hw⟩
              rw [hw]
              clear hw
              go_wp2
              go_ret2
              refine ⟨?_, rfl⟩
              rw [← HN.out]
              simp [numEnd, num1, C1.out, num2, C2.out, D2.out, (of_decide_eq_true C3.out), num3, C4.out, num4, C6.out, hp5, num5, C7.out, hp6, D8.out, C8.out]
            | false =>
              have C7 := hide c7
              clear c7
              go_wp2_with fail
              refine (isOne_at _ ao cap p5 T ⟨#[43, 45]⟩ _ rfl false C7.out HB.out).mono ?_
              rintro e w1 ⟨rfl, hw⟩
              rw [hw]
              clear hw
              obtain ⟨p8, d8⟩ : ∃ p8, digEnd T p5 = p8 := ⟨_, rfl⟩
              have D8 := hide d8
              clear d8
              obtain ⟨b8, c8⟩ : ∃ b8, decide (p5 < p8) = b8 := ⟨_, rfl⟩
              have C8 := hide c8
              clear c8
              go_wp2_with fail
              refine (digits_at _ ao cap p5 T p8 b8 D8.out C8.out HB.out (by have := HL.out; omega) HL.out).mono ?_
              rintro e w1 ⟨rfl, hw⟩
              rw [hw]
              clear hw
              go_wp2
              go_ret2
              refine ⟨?_, rfl⟩
              rw [← HN.out]
              simp [numEnd, num1, C1.out, num2, C2.out, D2.out, (of_decide_eq_true C3.out), num3, C4.out, num4, C6.out, hp5, num5, C7.out, D8.out, C8.out]
          | false =>
            have C6 := hide c6
            clear c6
            go_wp2_with fail
            refine (isOne_at _ ao cap p2 T ⟨#[101, 69]⟩ _ rfl false C6.out HB.out).mono ?_
            rintro e w1 ⟨rfl, hw⟩
            rw [hw]
            clear hw
            go_wp2
            go_ret2
            refine ⟨?_, rfl⟩
            rw [← HN.out]
            simp [numEnd, num1, C1.out, num2, C2.out, D2.out, (of_decide_eq_true C3.out), num3, C4.out, num4, C6.out]
      | false =>
        have C3 := hide c3
        clear c3
        go_wp2_with fail
        refine (digits_at _ ao cap p T p2 false D2.out C3.out HB.out (by have := HL.out; omega) HL.out).mono ?_
        rintro e w1 ⟨rfl, hw⟩
        rw [hw]
        clear hw
        go_wp2
        go_ret2
        refine ⟨?_, rfl⟩
        rw [← HN.out]
        simp [numEnd, num1, C1.out, num2, C2.out, D2.out, (of_decide_eq_false C3.out), num3, num4]

end Go.Proofs.YtbdpmpepmjpadaaGreatDoor
