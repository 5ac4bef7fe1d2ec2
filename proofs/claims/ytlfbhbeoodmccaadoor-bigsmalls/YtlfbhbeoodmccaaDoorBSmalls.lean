/- The law BigSmalls: the walk. -/
import Derived.Test.YtlfbhbeoodmccaaDoorRSmall2
namespace Go.Proofs.YtlfbhbeoodmccaaDoor
set_option linter.unusedVariables false
set_option linter.unusedSimpArgs false
set_option maxRecDepth 100000
open Go Go.RowKit Go.Shelf Go.Lib

theorem lit_i64 {n : Int} (h : (Lit.int .i64 n).wf = true) : -9223372036854775808 ≤ n ∧ n ≤ 9223372036854775807 := by
  simp [Lit.wf, IntKind.min, IntKind.max, IntKind.signed, IntKind.bits] at h
  omega
theorem i64_R {n : Int} (h : -9223372036854775808 ≤ n) (k : n ≤ 9223372036854775807) : n.natAbs < R ^ 2 := by
  have e : R ^ 2 = 18446744073709551616 := by decide
  rw [e]
  omega
theorem i64_10 {n : Int} (h : -9223372036854775808 ≤ n) (k : n ≤ 9223372036854775807) : n.natAbs < 10 ^ 20 := lt19 (by omega)
theorem limbs10 {na : Bool} {xs : List Nat} (hs : Small R xs) (hl : xs.length ≤ 8) : (sgn na (val R xs)).natAbs < 10 ^ 80 := Nat.lt_of_lt_of_le (bl_limbs hs hl) (pow_R_le 8)

set_option maxHeartbeats 4000000 in
theorem bsmalls_calls (w : World) (na : Bool) (n : Int) (sa : Value) (xs : List Nat) (ha0 : Limbs w sa xs) (hn0 : (Lit.int .i64 n).wf = true) (htab : TabIs Tryd.prog w "internal/strconv.uint64pow10" .u64 pow10Tab) :
    Calls Tryd.prog 3 #[.agg #[.bool na, sa], .int .i64 n] w fun e w' => e = .returned (.bool true) ∧ Below w.heap.size w w' := by
  obtain ⟨aa, ca, rfl⟩ := ha0.len
  obtain ⟨hn1, hn2⟩ := lit_i64 hn0
  have A0 := hide (Two.new w (.bool na) (.slice aa xs.length ca) 24)
  have K0 := hide (bel w (.cells #[.bool na, .slice aa xs.length ca] 24))
  have LA0 := hide (ha0.below K0.out)
  have Ht := hide htab
  have N1 := hide hn1
  have N2 := hide hn2
  clear ha0 htab hn0 hn1 hn2
  generalize hLa : xs.length = La at *
  have HLa := hide hLa
  clear hLa
  go_enter Tryd.func3, Tryd.ntmps3
  by_cases ha : La ≤ 8
  case neg =>
    go_wp2_with fail
    refine (small_no ha).mono ?_
    rintro e v1 ⟨rfl, j1⟩
    have J1 := hide (bafter K0.out j1 (Nat.le_refl _))
    clear j1
    go_wp2_with fail
    refine (msigned_calls _ (tab_keep Ht.out J1.out)).mono ?_
    rintro e v2 ⟨rfl, j2⟩
    go_wp2
    go_ret
    exact ⟨rfl, bafter J1.out j2 (Nat.le_refl _)⟩
  go_wp2_with fail
  refine (small_yes ha).mono ?_
  rintro e w1 ⟨rfl, k1⟩
  have Ha8 : Hid (xs.length ≤ 8) := by show _ ≤ _; rw [HLa.out]; exact ha
  have A1 := hide (A0.out.keep k1)
  have LA1 := hide (LA0.out.below k1)
  have K1 := hide (bafter K0.out k1 (Nat.le_refl _))
  have X1 := hide (box_arg (na := na) LA1.out Ha8.out)
  have c0 := A1.out.c0
  have c1 := A1.out.c1
  clear A0 LA0 K0 k1
  go_wp2_with fail
  refine (bsmall_calls X1.out).mono ?_
  rintro e w2 ⟨rfl, k2⟩
  have A2 := hide (A1.out.keep k2)
  have LA2 := hide (LA1.out.below k2)
  have K2 := hide (bafter K1.out k2 (Nat.le_refl _))
  clear A1 LA1 K1 k2 X1 c0 c1
  have c0 := A2.out.c0
  have c1 := A2.out.c1
  go_wp2_with fail
  refine (mof_calls (neg := na) LA2.out Ha8.out).mono ?_
  rintro e w3 ⟨r3, rfl, q3, k3⟩
  obtain ⟨b3, a3, L3, c3, rfl⟩ := q3.form
  have Q3 := hide (q3.arg (limbs10 LA2.out.small Ha8.out))
  have K3 := hide (bafter K2.out k3 (Nat.le_refl _))
  clear A2 LA2 K2 k3 q3 c0 c1
  go_wp2_with fail
  refine (rnsmall_calls Q3.out (by decide)).mono ?_
  rintro e w4 ⟨rfl, k4⟩
  have K4 := hide (bafter K3.out k4 (Nat.le_refl _))
  clear Q3 K3 k4
  generalize smallV (sgn na (val R xs)) = sv at *
  generalize smallB (sgn na (val R xs)) = sb at *
  go_wp2_with fail
  refine (bof_calls _ n N1.out N2.out).mono ?_
  rintro e w5 ⟨r5, rfl, q5, k5⟩
  obtain ⟨b5, a5, L5, c5, rfl⟩ := q5.form
  have Q5 := hide (q5.arg (i64_R N1.out N2.out) (by decide))
  have K5 := hide (bafter K4.out k5 (Nat.le_refl _))
  clear K4 k5 q5
  go_wp2_with fail
  refine (bsmall_calls Q5.out).mono ?_
  rintro e w6 ⟨rfl, k6⟩
  rw [(small_in N1.out N2.out).1, (small_in N1.out N2.out).2]
  have K6 := hide (bafter K5.out k6 (Nat.le_refl _))
  clear Q5 K5 k6
  go_wp2_with fail
  refine (msigned_calls _ (tab_keep Ht.out K6.out)).mono ?_
  rintro e w7 ⟨rfl, k7⟩
  have K7 := hide (bafter K6.out k7 (Nat.le_refl _))
  clear K6 k7
  go_wp2_with fail
  refine (bof_calls _ n N1.out N2.out).mono ?_
  rintro e w8 ⟨r8, rfl, q8, k8⟩
  obtain ⟨b8, a8, L8, c8, rfl⟩ := q8.form
  have Q8 := hide q8
  have K8 := hide (bafter K7.out k8 (Nat.le_refl _))
  clear K7 k8 q8
  go_wp2_with fail
  refine (rof_calls _ n N1.out N2.out).mono ?_
  rintro e w9 ⟨r9, rfl, q9, k9⟩
  obtain ⟨b9, a9, L9, c9, rfl⟩ := q9.form
  have Q9 := hide (q9.arg (i64_10 N1.out N2.out))
  have P8 := hide (Q8.out.below k9)
  have K9 := hide (bafter K8.out k9 (Nat.le_refl _))
  clear K8 k9 q9 Q8
  go_wp2_with fail
  refine (same_true P8.out Q9.out (by decide)).mono ?_
  rintro e wa ⟨rfl, ka⟩
  go_wp2
  go_ret
  exact ⟨rfl, bafter K9.out ka (Nat.le_refl _)⟩

end Go.Proofs.YtlfbhbeoodmccaaDoor
