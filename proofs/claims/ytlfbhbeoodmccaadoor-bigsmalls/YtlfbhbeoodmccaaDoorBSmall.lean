/- The contract of Small of numbers with a sign: numbers of 64 bits are told. -/
import Derived.Test.YtlfbhbeoodmccaaDoorBigMem
import Derived.Test.YtlfbhbeoodmccaaDoorBits
import Derived.Test.YtlfbhbeoodmccaaDoorRBase
import Derived.Laws.BitsAllLaws
namespace Go.Proofs.YtlfbhbeoodmccaaDoor
set_option linter.unusedVariables false
set_option linter.unusedSimpArgs false
set_option maxRecDepth 100000
open Go Go.RowKit Go.Shelf Go.Lib

theorem baft {n : Nat} {w w0 w1 : World} (h : Below n w w0) (k : Below w0.heap.size w0 w1) (hn : n ≤ w.heap.size) : Below n w w1 := h.trans (k.mono (Nat.le_trans hn h.size))

/-- What Small tells of a number. -/
def smallV (z : Int) : Int := if -9223372036854775808 ≤ z ∧ z ≤ 9223372036854775807 then z else 0
def smallB (z : Int) : Bool := decide (-9223372036854775808 ≤ z ∧ z ≤ 9223372036854775807)
theorem small_in {z : Int} (h1 : -9223372036854775808 ≤ z) (h2 : z ≤ 9223372036854775807) : smallV z = z ∧ smallB z = true := ⟨if_pos ⟨h1, h2⟩, decide_eq_true ⟨h1, h2⟩⟩
theorem small_out {z : Int} (h : ¬ (-9223372036854775808 ≤ z ∧ z ≤ 9223372036854775807)) : smallV z = 0 ∧ smallB z = false := ⟨if_neg h, decide_eq_false h⟩

theorem bits_big {m k : Nat} (h : IsBits m k) (hk : 64 < k) : 18446744073709551616 ≤ m := by
  rcases h.2 with h0 | h0
  · omega
  · have h1 : 2 ^ 64 ≤ 2 ^ (k - 1) := Nat.pow_le_pow_right (by decide) (by omega)
    have h2 : 2 ^ 64 = 18446744073709551616 := by decide
    omega
theorem bits_low {m k : Nat} (h : IsBits m k) (hk : k ≤ 64) : m < 18446744073709551616 := by
  have h1 : 2 ^ k ≤ 2 ^ 64 := Nat.pow_le_pow_right (by decide) hk
  have h2 : 2 ^ 64 = 18446744073709551616 := by decide
  have h3 := h.1
  omega

theorem or_limb {a b : Nat} (ha : a < 4294967296) : a ||| b * 4294967296 = a + b * 4294967296 := by
  have h := Nat.two_pow_add_eq_or_of_lt (i := 32) (b := a) (by simpa using ha) b
  have e : 2 ^ 32 = 4294967296 := by decide
  rw [e] at h
  rw [Nat.or_comm, Nat.mul_comm b, ← h, Nat.add_comm]

theorem or_step {zs : List Nat} {j : Nat} (hs : Small R zs) (hj : j < zs.length) (hl : zs.length ≤ 2) :
    bits BinOp.or IntKind.u64 ((val R (zs.take j) : Nat) : Int) (IntKind.u64.wrap (((nth zs j : Nat) : Int) * 2 ^ (32 * j))) = ((val R (zs.take (j + 1)) : Nat) : Int) := by
  have hd : nth zs j < R := hs.nth R_pos j
  rw [R_eq] at hd
  have hst : val R (zs.take (j + 1)) = val R (zs.take j) + R ^ j * nth zs j := by
    rw [List.take_succ_eq_append_getElem hj, val_append, nth_eq hj]
    simp [val, Nat.min_eq_left (Nat.le_of_lt hj)]
  have hN : val R (zs.take j) < R ^ j := by
    have h := val_lt (hs.take j)
    rwa [List.length_take, Nat.min_eq_left (Nat.le_of_lt hj)] at h
  rw [hst]
  generalize val R (zs.take j) = N at *
  generalize nth zs j = d at *
  have hj2 : j = 0 ∨ j = 1 := by omega
  rcases hj2 with rfl | rfl
  · rw [Nat.pow_zero] at hN ⊢
    obtain rfl : N = 0 := by omega
    have e : IntKind.u64.wrap ((d : Int) * 2 ^ (32 * 0)) = (d : Int) := by rw [IntKind.wrap_u64]; simp; omega
    rw [e, u64_or_nat 0 d (by omega) (by omega)]
    simp
  · rw [Nat.pow_one, R_eq] at hN ⊢
    have e : IntKind.u64.wrap ((d : Int) * 2 ^ (32 * 1)) = ((d * 4294967296 : Nat) : Int) := by
      have e2 : (2 : Int) ^ (32 * 1) = 4294967296 := by decide
      rw [IntKind.wrap_u64, e2]
      omega
    rw [e, u64_or_nat N (d * 4294967296) (by omega) (by omega), or_limb hN, Nat.mul_comm]

set_option maxHeartbeats 2000000 in
theorem bsmall_calls {w : World} {u : Value} {x : Int} (hu : BArg w u x) :
    Calls Tryd.prog 8 #[u] w fun e w' => e = .returned (.tuple #[.int .i64 (smallV x), .bool (smallB x)]) ∧ Below w.heap.size w w' := by
  obtain ⟨na, mu, m, rfl, hm, hx⟩ := hu
  obtain ⟨a, L, c, rfl⟩ := hm.shape
  have T0 := hide (Two.new w (.bool na) (.slice a L c) 24)
  have HB := hide (bel w (.cells #[.bool na, .slice a L c] 24))
  have Hm := hide (hm.below HB.out)
  have Hx := hide hx
  clear hm hx
  go_enter Tryd.func8, Tryd.ntmps8
  go_wp2_with fail
  refine (bits_res Hm.out).mono ?_
  rintro e w1 ⟨k, rfl, hk, hb1⟩
  have K1 := hide (baft HB.out hb1 (Nat.le_refl _))
  by_cases h64 : k ≤ 64
  case neg =>
    have hbig := bits_big hk (by omega)
    have hd : (k : Int) > 64 := by omega
    have Ho : Hid (smallV x = 0 ∧ smallB x = false) := small_out (by rw [Hx.out]; unfold sgn; split <;> omega)
    clear hk h64 hbig hb1
    go_wp2
    go_ret2
    exact ⟨by rw [Ho.out.1, Ho.out.2]; rfl, K1.out⟩
  have hlow := bits_low hk h64
  have hd : ¬ (k : Int) > 64 := by omega
  have c1 := (T0.out.keep hb1).c1
  have Hm1 := hide (Hm.out.below hb1)
  have T1 := hide (T0.out.keep hb1)
  clear hk h64 hb1 Hm HB T0
  go_wp2_with fail
  refine (norm_big Hm1.out).mono ?_
  rintro e w2 ⟨r2, rfl, q2, hb2⟩
  obtain ⟨zs, hz, hcan, hval⟩ := q2
  have hl2 : zs.length ≤ 2 := canon_len_pow hcan (by rw [hval]; exact Nat.lt_of_lt_of_le hlow (by decide))
  obtain ⟨ao, cap, rfl⟩ := hz.len
  have T2 := T1.out.keep hb2
  have K2 := hide (baft K1.out hb2 (Nat.le_refl _))
  have Hz := hide hz
  have Hval := hide hval
  have d0 := T2.c0
  have Hlow := hide hlow
  clear hz hcan hval hb2 T1 Hm1 K1 c1 hlow
  go_wp2
  go_loopw [4, 15] (fun n i wr => ∃ j : Nat, j ≤ zs.length ∧ i = .int .i64 (j : Int) ∧ n = .int .u64 ((val R (zs.take j) : Nat) : Int) ∧ wr = w2) (fun n i _ => zs.length - (RowKit.intOf i).toNat)
  case atStart => exact ⟨0, Nat.zero_le _, rfl, rfl, rfl⟩
  case round =>
    obtain ⟨j, hj, rfl, rfl, rfl⟩ := hrel
    by_cases hlt : j < zs.length
    · obtain ⟨b2, o2, eb⟩ := Hz.out.addr hlt
      subst eb
      have c2 : wr.cell? ⟨b2, o2 + j, none⟩ = some (.int .u32 ((nth zs j : Nat) : Int)) := Hz.out.cellAt rfl hlt
      have hd9 : nth zs j < R := Hz.out.small.nth R_pos j
      rw [R_eq] at hd9
      have hwrap := wrap64_nat (n := nth zs j) (by omega)
      have dj : (j : Int) < (zs.length : Int) := by omega
      have dge : (j : Int) ≥ 0 := by omega
      have hmul : IntKind.i64.wrap (32 * (j : Int)) = 32 * (j : Int) := by rw [IntKind.wrap_i64]; omega
      have Ho := hide (or_step Hz.out.small hlt hl2)
      clear Hz T2 hd9
      go_wp2
      go_roundw
      case rel => exact ⟨j + 1, by omega, by go_num, by rw [Ho.out], trivial⟩
      case measure => simp [RowKit.intOf]; omega
    · have e : val R (zs.take j) = m := by rw [List.take_of_length_le (by omega)]; exact Hval.out
      rw [e]
      have hm0 := Hlow.out
      have Hx' := Hx.out
      clear Hz T2 Hval Hlow e
      cases na
      · have ex : x = (m : Int) := Hx'
        clear Hx'
        by_cases h63 : m ≤ 9223372036854775807
        · have h1 : (m : Int) ≤ 9223372036854775807 := by omega
          have hw : IntKind.i64.wrap (m : Int) = (m : Int) := by rw [IntKind.wrap_i64]; omega
          have Hs := hide (small_in (z := x) (by omega) (by omega))
          have Hex := hide ex
          clear ex h63 Hx
          go_wp2
          go_ret2
          refine ⟨?_, K2.out⟩
          rw [Hs.out.1, Hs.out.2, Hex.out]
          rfl
        · have h1 : ¬ (m : Int) ≤ 9223372036854775807 := by omega
          have Hs := hide (small_out (z := x) (by omega))
          clear ex h63 Hx
          go_wp2
          go_ret2
          refine ⟨?_, K2.out⟩
          rw [Hs.out.1, Hs.out.2]
          rfl
      · have ex : x = -(m : Int) := Hx'
        clear Hx'
        by_cases h63 : m ≤ 9223372036854775808
        · have h1 : (m : Int) ≤ 9223372036854775808 := by omega
          obtain ⟨V, hV⟩ : ∃ V, IntKind.u64.wrap (-(m : Int)) = V := ⟨_, rfl⟩
          have hw : IntKind.i64.wrap V = -(m : Int) := by rw [← hV, IntKind.wrap_u64, IntKind.wrap_i64]; omega
          have Hs := hide (small_in (z := x) (by omega) (by omega))
          have Hex := hide ex
          clear ex h63 Hx
          go_wp2
          go_ret2
          refine ⟨?_, K2.out⟩
          rw [Hs.out.1, Hs.out.2, Hex.out]
          rfl
        · have h1 : ¬ (m : Int) ≤ 9223372036854775808 := by omega
          have Hs := hide (small_out (z := x) (by omega))
          clear ex h63 Hx
          go_wp2
          go_ret2
          refine ⟨?_, K2.out⟩
          rw [Hs.out.1, Hs.out.2]
          rfl

end Go.Proofs.YtlfbhbeoodmccaaDoor
