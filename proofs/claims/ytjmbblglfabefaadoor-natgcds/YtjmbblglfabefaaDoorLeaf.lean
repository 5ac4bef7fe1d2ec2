/- The contracts of small functions: addition and subtraction of 32-bit numbers with a carry, a comparison, a limb read beyond a list's end. -/
import Derived.Test.YtjmbblglfabefaaDoorMem
import Derived.Laws.BitsAllLaws
namespace Go.Proofs.YtjmbblglfabefaaDoor
set_option linter.unusedVariables false
set_option linter.unusedSimpArgs false
open Go Go.RowKit Go.Shelf

set_option maxHeartbeats 1000000 in
theorem add32_calls (x y c : Nat) (hx : x < 4294967296) (hy : y < 4294967296) (hc : c ≤ 1) (w : World) :
    Calls Tryd.prog 43 #[.int .u32 (x : Int), .int .u32 (y : Int), .int .u32 (c : Int)] w fun e w' => e = .returned (.tuple #[.int .u32 (((x + y + c) % 4294967296 : Nat) : Int), .int .u32 (((x + y + c) / 4294967296 : Nat) : Int)]) ∧ w' = w := by
  go_enter Tryd.func43, Tryd.ntmps43
  go_wp2
  go_ret2
  exact ⟨rfl, rfl⟩

/-- The borrow of x - y - c. -/
def bor (x y c : Nat) : Nat := if x < y + c then 1 else 0

theorem bor_le (x y c : Nat) : bor x y c ≤ 1 := by unfold bor; split <;> omega

theorem top_bit (n : Nat) (h : n < 4294967296) : n / 2147483648 = (n.testBit 31).toNat := by
  rw [Nat.toNat_testBit]
  show n / 2147483648 = n / 2147483648 % 2
  omega

theorem bit31 (n : Nat) (h : n < 4294967296) : n.testBit 31 = decide (2147483648 ≤ n) := by
  have := top_bit n h
  by_cases h1 : 2147483648 ≤ n
  · have : n / 2147483648 = 1 := by omega
    simp [h1]
    cases h2 : n.testBit 31
    · simp_all
    · rfl
  · have : n / 2147483648 = 0 := by omega
    simp [h1]
    cases h2 : n.testBit 31
    · rfl
    · simp_all

theorem bit_lt {a b : Nat} (ha : a < 4294967296) (hb : b < 4294967296) : a &&& b < 4294967296 ∧ a ||| b < 4294967296 ∧ a ^^^ b < 4294967296 :=
  ⟨Nat.and_lt_two_pow (n := 32) a hb, Nat.or_lt_two_pow (n := 32) ha hb, Nat.xor_lt_two_pow (n := 32) ha hb⟩

theorem sub_bits (x y c d : Nat) (hx : x < 4294967296) (hy : y < 4294967296) (hc : c ≤ 1) (hd : d = (x + 4294967296 + 4294967296 - y - c) % 4294967296) :
    (((4294967295 ^^^ x) &&& y) ||| ((4294967295 ^^^ (x ^^^ y)) &&& d)) / 2147483648 = bor x y c := by
  have hd' : d < 4294967296 := by omega
  have h1 := (bit_lt hx hy).2.2
  have h2 := (bit_lt (show 4294967295 < 4294967296 from by omega) hx).2.2
  have h3 := (bit_lt (show 4294967295 < 4294967296 from by omega) h1).2.2
  rw [top_bit _ (bit_lt (bit_lt h2 hy).1 (bit_lt h3 hd').1).2.1]
  simp only [Nat.testBit_or, Nat.testBit_and, Nat.testBit_xor, bit31 x hx, bit31 y hy, bit31 d hd', bit31 4294967295 (by omega)]
  unfold bor
  by_cases a1 : 2147483648 ≤ x <;> by_cases a2 : 2147483648 ≤ y <;> by_cases a3 : 2147483648 ≤ d <;> by_cases a4 : x < y + c <;> simp [a1, a2, a3, a4] <;> omega

theorem sub_cast (x y c : Nat) (hx : x < 4294967296) (hy : y < 4294967296) (hc : c ≤ 1) : ((x : Int) - y - c) % 4294967296 = (((x + 4294967296 + 4294967296 - y - c) % 4294967296 : Nat) : Int) := by omega

theorem max_u32 : IntKind.u32.max = ((4294967295 : Nat) : Int) := by decide

theorem sub_bits' (x y c : Nat) (hx : x < 4294967296) (hy : y < 4294967296) (hc : c ≤ 1) :
    bits BinOp.or IntKind.u32 (bits BinOp.and IntKind.u32 (bits BinOp.xor IntKind.u32 IntKind.u32.max ↑x) ↑y) (bits BinOp.and IntKind.u32 (bits BinOp.xor IntKind.u32 IntKind.u32.max (bits BinOp.xor IntKind.u32 ↑x ↑y)) (((x : Int) - y - c) % 4294967296)) / 2147483648 = (bor x y c : Int) := by
  have hd' : (x + 4294967296 + 4294967296 - y - c) % 4294967296 < 4294967296 := by omega
  have h1 := (bit_lt hx hy).2.2
  have h2 := (bit_lt (show 4294967295 < 4294967296 from by omega) hx).2.2
  have h3 := (bit_lt (show 4294967295 < 4294967296 from by omega) h1).2.2
  rw [sub_cast x y c hx hy hc, max_u32, u32_xor_nat _ _ (by omega) hx, u32_and_nat _ _ h2 hy, u32_xor_nat _ _ hx hy, u32_xor_nat _ _ (by omega) h1, u32_and_nat _ _ h3 hd', u32_or_nat _ _ (bit_lt h2 hy).1 (bit_lt h3 hd').1]
  have := sub_bits x y c _ hx hy hc rfl
  omega

set_option maxHeartbeats 1000000 in
theorem sub32_calls (x y c : Nat) (hx : x < 4294967296) (hy : y < 4294967296) (hc : c ≤ 1) (w : World) :
    Calls Tryd.prog 64 #[.int .u32 (x : Int), .int .u32 (y : Int), .int .u32 (c : Int)] w fun e w' => e = .returned (.tuple #[.int .u32 (((x + 4294967296 + 4294967296 - y - c) % 4294967296 : Nat) : Int), .int .u32 ((bor x y c : Nat) : Int)]) ∧ w' = w := by
  go_enter Tryd.func64, Tryd.ntmps64
  go_wp2
  all_goals first | (exfalso; revert ‹IntKind.u32.signed = true›; decide) | skip
  go_ret2
  refine ⟨?_, rfl⟩
  have e1 := sub_bits' x y c hx hy hc
  have e2 := sub_cast x y c hx hy hc
  show Ending.returned (.tuple #[.int .u32 _, .int .u32 _]) = _
  rw [e1, e2]
  rfl

set_option maxHeartbeats 1000000 in
theorem limbAt_calls (w : World) (sv : Value) (zs : List Nat) (i : Nat) (h : Limbs w sv zs) (hi : i ≤ 4611686018427387904) :
    Calls Tryd.prog 44 #[sv, .int .i64 (i : Int)] w fun e w' => e = .returned (.int .u32 ((nth zs i : Nat) : Int)) ∧ w' = w := by
  obtain ⟨ao, cap, rfl, h1, h2, h3, h4⟩ := h
  by_cases hlt : i < zs.length
  · obtain ⟨b, off, rfl, hc⟩ := h4 i hlt
    clear h4
    go_enter Tryd.func44, Tryd.ntmps44
    go_wp2
    go_ret
    exact ⟨rfl, rfl⟩
  · have e : nth zs i = 0 := nth_ge (by omega)
    rw [e]
    clear e h4
    go_enter Tryd.func44, Tryd.ntmps44
    go_wp2
    go_ret
    exact ⟨rfl, rfl⟩

/-- -1, 0 or 1. -/
def cmpI (a b : Int) : Int := if a < b then -1 else if b < a then 1 else 0

set_option maxHeartbeats 1000000 in
theorem compareInt_calls (x y : Int) (w : World) : Calls Tryd.prog 51 #[.int .i64 x, .int .i64 y] w fun e w' => e = .returned (.int .i64 (cmpI x y)) ∧ w' = w := by
  unfold cmpI
  by_cases h1 : x < y
  · rw [if_pos h1]
    go_enter Tryd.func51, Tryd.ntmps51
    go_wp2
    go_ret
    exact ⟨rfl, rfl⟩
  · rw [if_neg h1]
    by_cases h2 : y < x
    · rw [if_pos h2]
      go_enter Tryd.func51, Tryd.ntmps51
      go_wp2
      go_ret
      exact ⟨rfl, rfl⟩
    · rw [if_neg h2]
      go_enter Tryd.func51, Tryd.ntmps51
      go_wp2
      go_ret
      exact ⟨rfl, rfl⟩

set_option maxHeartbeats 1000000 in
theorem compareU_calls (x y : Int) (w : World) : Calls Tryd.prog 52 #[.int .u32 x, .int .u32 y] w fun e w' => e = .returned (.int .i64 (cmpI x y)) ∧ w' = w := by
  unfold cmpI
  by_cases h1 : x < y
  · rw [if_pos h1]
    go_enter Tryd.func52, Tryd.ntmps52
    go_wp2
    go_ret
    exact ⟨rfl, rfl⟩
  · rw [if_neg h1]
    by_cases h2 : y < x
    · rw [if_pos h2]
      go_enter Tryd.func52, Tryd.ntmps52
      go_wp2
      go_ret
      exact ⟨rfl, rfl⟩
    · rw [if_neg h2]
      go_enter Tryd.func52, Tryd.ntmps52
      go_wp2
      go_ret
      exact ⟨rfl, rfl⟩

theorem run_quo64 {P : Program} (a b : Nat) (ha : a < 18446744073709551616) (hb : 0 < b) (w : World) : (Op.intDiv .quo .u64 (a : Int) (b : Int)).run P w = .ok (.int .u64 ((a / b : Nat) : Int)) w := by
  have h0 : ¬ ((b : Int) = 0) := by omega
  have h1 : a / b < 18446744073709551616 := Nat.lt_of_le_of_lt (Nat.div_le_self a b) ha
  have h2 : (a : Int).tdiv (b : Int) = ((a / b : Nat) : Int) := rfl
  simp only [Op.intDiv]
  rw [if_neg h0, h2, IntKind.wrap_u64]
  generalize a / b = q at *
  have h3 : (q : Int) % 18446744073709551616 = (q : Int) := by omega
  rw [h3]
  rfl

theorem run_rem64 {P : Program} (a b : Nat) (hb : 0 < b) (w : World) : (Op.intDiv .rem .u64 (a : Int) (b : Int)).run P w = .ok (.int .u64 ((a % b : Nat) : Int)) w := by
  have h0 : ¬ ((b : Int) = 0) := by omega
  have h2 : (a : Int).tmod (b : Int) = ((a % b : Nat) : Int) := rfl
  simp only [Op.intDiv]
  rw [if_neg h0, h2]
  rfl

end Go.Proofs.YtjmbblglfabefaaDoor
