/- The reference's Shift and Bits. -/
import Derived.Test.YtjmbblglfabefaaDoorRGcd
import Derived.Test.YtjmbblglfabefaaDoorRFrom
namespace Go.Proofs.YtjmbblglfabefaaDoor
set_option linter.unusedVariables false
set_option linter.unusedSimpArgs false
open Go Go.RowKit Go.Shelf

theorem lt_twice {m j k : Nat} (h : m < 10 ^ (k + j)) : m * 2 < 10 ^ (k + (j + 1)) := by
  rw [← Nat.add_assoc, Nat.pow_succ]
  omega

set_option maxRecDepth 100000 in
set_option maxHeartbeats 1000000 in
theorem rshift_calls {w : World} {av : Value} {m n K : Nat} (hx : RArg w av m) (hm : m < 10 ^ K) (hK : K ≤ 1000) (hn : n ≤ 300) :
    Calls Tryd.prog 14 #[av, .int .i64 (n : Int)] w fun e w' => ∃ rv, e = .returned rv ∧ RRes w' rv (m * 2 ^ n) ∧ Below w.heap.size w w' := by
  have Hx := hide hx
  have Hm := hide hm
  clear hx hm
  go_enter Tryd.func14, Tryd.ntmps14
  go_wp2_with fail
  refine (trim_arg Hx.out).mono ?_
  rintro e w1 ⟨x, rfl, qx, hb1⟩
  have Qx := hide qx
  have HB := hide hb1
  clear hb1 qx Hx
  go_wp2
  go_loopw [5, 6] (fun xv iv wr => ∃ (i a : Nat), iv = .int .i64 (i : Int) ∧ i ≤ n ∧ Hid (RRes wr xv a) ∧ Hid (a = m * 2 ^ i) ∧ Hid (a < 10 ^ (K + i)) ∧ Hid (Below w.heap.size w wr)) (fun _ iv _ => n - (intOf iv).toNat)
  case atStart => exact ⟨0, m, rfl, Nat.zero_le _, Qx, by show _ = _; simp, Hm, HB⟩
  case round =>
    obtain ⟨i, a, rfl, hi, hA, ha, hl, hW⟩ := hrel
    by_cases hz : i = n
    · subst hz
      have hno : ¬ ((i : Int) < (i : Int)) := by omega
      go_wp2
      go_ret
      exact ⟨_, rfl, by rw [← ha.out]; exact hA.out, hW.out⟩
    · have hlt : (i : Int) < (n : Int) := by omega
      go_wp2_with fail
      refine (times_rres (n := 2) (hA.out.arg hl.out (by omega)) (by decide)).mono ?_
      rintro e w3 ⟨r, rfl, hr, hb3⟩
      have hr3 := hide hr
      have hW3 := hide (bth hW.out hb3)
      clear hb3 hr
      go_wp2
      go_roundw
      case rel => exact ⟨i + 1, a * 2, by go_num, by omega, hr3, by show _ = _; rw [ha.out, Nat.pow_succ, Nat.mul_assoc], lt_twice hl.out, hW3⟩
      case measure => simp [intOf]; omega

/-- k is how many binary digits n has. -/
def IsBits (n k : Nat) : Prop := n < 2 ^ k ∧ (k = 0 ∨ 2 ^ (k - 1) ≤ n)

theorem IsBits.unique {n j k : Nat} (h : IsBits n j) (g : IsBits n k) : j = k := by
  have key : ∀ {a b : Nat}, IsBits n a → IsBits n b → ¬ a < b := by
    intro a b ha hb hlt
    have h2 : 2 ^ (b - 1) ≤ n := hb.2.resolve_left (by omega)
    have h3 : 2 ^ a ≤ 2 ^ (b - 1) := Nat.pow_le_pow_right (by decide) (by omega)
    have := ha.1
    omega
  have h1 := key h g
  have h2 := key g h
  omega

theorem bits_bound {m c K : Nat} (h : c = 0 ∨ 2 ^ (c - 1) ≤ m) (hm : m < 10 ^ K) : c ≤ 4 * K + 1 := by
  apply Decidable.byContradiction
  intro hc
  have h1 := h.resolve_left (by omega)
  have h2 : 2 ^ (4 * K) ≤ 2 ^ (c - 1) := Nat.pow_le_pow_right (by decide) (by omega)
  have h3 : 10 ^ K ≤ 2 ^ (4 * K) := by
    rw [Nat.pow_mul]
    exact Nat.pow_le_pow_left (by decide) K
  omega

theorem two_lt : 2 < 10 ^ 1 := by decide

set_option maxRecDepth 100000 in
set_option maxHeartbeats 1000000 in
theorem rbits_calls {w : World} {av : Value} {m K : Nat} (hx : RArg w av m) (hm : m < 10 ^ K) (hK : K ≤ 1000) :
    Calls Tryd.prog 16 #[av] w fun e w' => ∃ c : Nat, e = .returned (.int .i64 (c : Int)) ∧ IsBits m c ∧ Below w.heap.size w w' := by
  have Hx := hide hx
  have Hm := hide hm
  clear hx hm
  go_enter Tryd.func16, Tryd.ntmps16
  go_wp2_with fail
  refine (trim_arg Hx.out).mono ?_
  rintro e w1 ⟨x, rfl, qx, hb1⟩
  go_wp2_with fail
  refine (small_from (W := w1) (n := 2) (Below.refl _ _) (by decide)).mono ?_
  rintro e w2 ⟨two, rfl, q2, hb2⟩
  have Qx := hide (qx.below hb2)
  have HB := hide (bth hb1 hb2)
  have Q2 := hide q2
  clear hb1 hb2 qx Hx q2
  go_wp2
  go_loopw [3, 4] (fun cv rv wr => ∃ (c t : Nat), cv = .int .i64 (c : Int) ∧ Hid (RRes wr rv t) ∧ Hid (RRes wr two 2) ∧ Hid (t = m / 2 ^ c) ∧ Hid (c = 0 ∨ 2 ^ (c - 1) ≤ m) ∧ Hid (Below w.heap.size w wr)) (fun _ rv wr => worthD rv wr)
  case atStart => exact ⟨0, m, rfl, Qx, Q2, by show _ = _; simp, .inl rfl, HB⟩
  case round =>
    obtain ⟨c, t, rfl, hA, h2, ht, hc, hW⟩ := hrel
    obtain ⟨yo, L, yc, hy, hL⟩ := hA.out.form
    subst hy
    by_cases hz : t = 0
    · obtain rfl : L = 0 := hL.2 hz
      have Hz := hide hz
      clear hz hL
      go_wp2
      go_ret
      refine ⟨c, rfl, ⟨?_, hc.out⟩, hW.out⟩
      have e1 := ht.out
      rw [Hz.out] at e1
      rcases Nat.lt_or_ge m (2 ^ c) with h | h
      · exact h
      · have := Nat.div_pos h (Nat.pow_pos (by decide))
        omega
    · have hL0 : (L : Int) > 0 := by
        have : L ≠ 0 := fun e => hz (hL.1 e)
        omega
      have hcb := bits_bound hc.out Hm.out
      have Hz := hide hz
      have htm : t < 10 ^ K := Nat.lt_of_le_of_lt (by rw [ht.out]; exact Nat.div_le_self _ _) Hm.out
      have Htm := hide htm
      clear hz hL htm
      go_wp2_with fail
      refine (rdivmod_calls (hA.out.arg Htm.out (by omega)) (h2.out.arg two_lt (by decide)) (by decide) two_lt (by decide)).mono ?_
      rintro e w3 ⟨q, r, rfl, hq, hr, hb3⟩
      have h23 := hide (h2.out.below hb3)
      have hq3 := hide hq.res
      have hW3 := hide (bth hW.out hb3)
      clear hb3 hq hr
      go_wp2
      go_roundw
      case rel =>
        refine ⟨c + 1, t / 2, by go_num, hq3, h23, ?_, .inr ?_, hW3⟩
        · show _ = _
          rw [ht.out, Nat.div_div_eq_div_mul, Nat.pow_succ]
        · show 2 ^ c ≤ m
          rcases Nat.lt_or_ge m (2 ^ c) with h | h
          · exact absurd (by rw [ht.out, Nat.div_eq_of_lt h]) Hz.out
          · exact h
      case measure =>
        rw [hq3.out.worth, hA.out.worth]
        have := Hz.out
        omega

end Go.Proofs.YtjmbblglfabefaaDoor
