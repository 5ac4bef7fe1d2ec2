/- The reference's numbers with a sign: Norm and Of; the law's own functions same and small. -/
import Derived.Test.YtnfplceadkelaaaGreatDoorBigText
import Derived.Test.YtnfplceadkelaaaGreatDoorBound10
namespace Go.Proofs.YtnfplceadkelaaaGreatDoor
set_option linter.unusedVariables false
set_option linter.unusedSimpArgs false
set_option maxRecDepth 100000
open Go Go.RowKit Go.Shelf Go.Lib

/-- A number of the reference's, as an argument: its sign, and its digits, no more than K. -/
def NArg (K : Nat) (W : World) (v : Value) (z : Int) : Prop := ∃ neg dv n, v = .agg #[.bool neg, dv] ∧ RRes W dv n ∧ n < 10 ^ K ∧ z = sgn neg n
/-- A number of the reference's, as an answer: in its one form. -/
def NRes (W : World) (v : Value) (z : Int) : Prop := ∃ dv, v = .agg #[.bool (decide (z < 0)), dv] ∧ RRes W dv z.natAbs

theorem NArg.below {K : Nat} {W W' : World} {v : Value} {z : Int} (h : NArg K W v z) (hb : Below W.heap.size W W') : NArg K W' v z := by
  obtain ⟨neg, dv, n, h1, h2, h3⟩ := h
  exact ⟨neg, dv, n, h1, h2.below hb, h3⟩
theorem NRes.below {W W' : World} {v : Value} {z : Int} (h : NRes W v z) (hb : Below W.heap.size W W') : NRes W' v z := by
  obtain ⟨dv, h1, h2⟩ := h
  exact ⟨dv, h1, h2.below hb⟩
theorem NRes.arg {K : Nat} {W : World} {v : Value} {z : Int} (h : NRes W v z) (hz : z.natAbs < 10 ^ K) : NArg K W v z := by
  obtain ⟨dv, h1, h2⟩ := h
  exact ⟨_, dv, _, h1, h2, hz, (sgn_abs z).symm⟩
theorem NRes.form {W : World} {v : Value} {z : Int} (h : NRes W v z) : ∃ b a L c, v = .agg #[.bool b, .slice a L c] := by
  obtain ⟨dv, rfl, hm⟩ := h
  obtain ⟨a, L, c, rfl, _⟩ := hm.shape
  exact ⟨_, _, _, _, rfl⟩

theorem Digs.put {W : World} {b : Nat} {bx : Bool} {ay : Option Addr} {Ly cy : Nat} {t : TypeId} {v : Value} {zs : List Nat} (h : Digs W v zs) (T : Two W b (.bool bx) (.slice ay Ly cy) t) (p q : Value) :
    Digs ((W.setCell ⟨b, 0, none⟩ p).setCell ⟨b, 1, none⟩ q) v zs := by
  obtain ⟨ao, cap, e, h1, h3, h4⟩ := h
  refine ⟨ao, cap, e, h1, h3, fun j hj => ?_⟩
  obtain ⟨bb, off, e2, hc⟩ := h4 j hj
  exact ⟨bb, off, e2, cell_set T p q hc⟩
theorem RRes.put {W : World} {b : Nat} {bx : Bool} {ay : Option Addr} {Ly cy : Nat} {t : TypeId} {v : Value} {n : Nat} (h : RRes W v n) (T : Two W b (.bool bx) (.slice ay Ly cy) t) (p q : Value) :
    RRes ((W.setCell ⟨b, 0, none⟩ p).setCell ⟨b, 1, none⟩ q) v n := by
  obtain ⟨xs, h1, h2⟩ := h
  exact ⟨xs, h1.put T p q, h2⟩
theorem NRes.put {W : World} {b : Nat} {bx : Bool} {ay : Option Addr} {Ly cy : Nat} {t : TypeId} {v : Value} {z : Int} (h : NRes W v z) (T : Two W b (.bool bx) (.slice ay Ly cy) t) (p q : Value) :
    NRes ((W.setCell ⟨b, 0, none⟩ p).setCell ⟨b, 1, none⟩ q) v z := by
  obtain ⟨mv, h1, h2⟩ := h
  exact ⟨mv, h1, h2.put T p q⟩

theorem results_num {fn : Func} {k : Tmp} (h : fn.results = #[.cell k 32]) {tmps : Array Value} {W : World} {b : Nat} {x y : Value} {t : TypeId} (hp : tmps.getD k undef = .pointer (some ⟨b, 0, none⟩)) (T : Two W b x y t) :
    (results fn tmps).run Tryz.prog W = .ok (.agg #[x, y]) W := by
  have c0 := T.c0
  have c1 := T.c1
  have hp' : tmps[k]?.getD undef = .pointer (some ⟨b, 0, none⟩) := by simpa using hp
  simp [results, h, hp', go_sem, c0, c1]

theorem nres_mk {W : World} {dv : Value} {n : Nat} (hd : RRes W dv n) (neg b : Bool) (hb : b = (neg && decide (n ≠ 0))) : NRes W (.agg #[.bool b, dv]) (sgn neg n) := by
  have e1 : (sgn neg n).natAbs = n := by
    unfold sgn
    cases neg <;> simp
  have e2 : decide (sgn neg n < 0) = b := by
    rw [hb]
    unfold sgn
    cases neg
    · simp
    · by_cases h : n = 0
      · subst h; rfl
      · simp [h]; omega
  exact ⟨dv, by rw [e2], by rw [e1]; exact hd⟩

theorem trim_any {w : World} {v : Value} {n K : Nat} (h : RRes w v n) (hn : n < 10 ^ K) (hK : K ≤ 1000) :
    Calls Tryz.prog 93 #[v] w fun e w' => ∃ rv, e = .returned rv ∧ RRes w' rv n ∧ Below w.heap.size w w' := by
  obtain ⟨ds, hd, hc, rfl, hl⟩ := h.arg hn (by omega)
  refine (trim_res w v ds hd (by omega)).mono ?_
  rintro e w' ⟨rv, rfl, h1, h2⟩
  exact ⟨rv, rfl, h1.res, h2⟩

set_option maxHeartbeats 1000000 in
theorem rnorm_calls {K : Nat} {w : World} {v : Value} {z : Int} (hv : NArg K w v z) (hK : K ≤ 1000) :
    Calls Tryz.prog 55 #[v] w fun e w' => ∃ rv, e = .returned rv ∧ NRes w' rv z ∧ Below w.heap.size w w' := by
  obtain ⟨neg, dv, n, rfl, hd, hn, rfl⟩ := hv
  obtain ⟨a, L, c, rfl, _⟩ := hd.shape
  obtain ⟨t0, t1, hb⟩ := boxes2 w (.bool neg) (.slice a L c) (.bool false) (.slice none 0 0) 32
  have T0 := hide t0
  have T1 := hide t1
  have HB := hide hb
  have Hd := hide (hd.below hb)
  have Hn := hide hn
  clear hd t0 t1 hb hn
  go_enter Tryz.func55, Tryz.ntmps55
  go_wp2_with fail
  refine (trim_any Hd.out Hn.out hK).mono ?_
  rintro e w1 ⟨d1, rfl, q1, hb1⟩
  obtain ⟨a1, L1, c1, rfl, hL1⟩ := q1.shape
  have TZ := T1.out.keep hb1
  have KZ := bafter HB.out hb1 (Nat.le_refl _)
  have x0 := (T0.out.keep hb1).c0
  have d0 := TZ.c0
  have d1 := TZ.c1
  have f0 := TZ.f0 0
  have f1 := TZ.f0 1
  have TZ' := hide TZ
  have KZ' := hide KZ
  clear TZ KZ hb1
  by_cases hz : n = 0
  · obtain rfl : L1 = 0 := hL1.2 hz
    have Hz := hide hz
    clear hz hL1 q1
    go_wp2
    refine bodyPost_ret (results_num rfl rfl (TZ'.out.put _ _)) rfl ?_
    have e0 : sgn neg n = sgn false 0 := by rw [Hz.out]; unfold sgn; cases neg <;> rfl
    rw [e0]
    exact ⟨_, rfl, nres_mk (RRes.nil _) false false rfl, below_put KZ'.out (by omega) _ _⟩
  · have hL0 : ((L1 : Int) == 0) = false := beq_eq_false_iff_ne.2 (by
      have : L1 ≠ 0 := fun e => hz (hL1.1 e)
      omega)
    have Hz := hide hz
    clear hz hL1
    go_wp2
    refine bodyPost_ret (results_num rfl rfl (TZ'.out.put _ _)) rfl ?_
    exact ⟨_, rfl, nres_mk (q1.put TZ'.out _ _) neg neg (by rw [decide_eq_true Hz.out, Bool.and_true]), below_put KZ'.out (by omega) _ _⟩

theorem lt19 {n : Nat} (h : n ≤ 9223372036854775808) : n < 10 ^ 20 := Nat.lt_of_le_of_lt h (by decide)

theorem RRes.lit {W : World} {neg : Bool} {dv : Value} {n K : Nat} (h : RRes W dv n) (hn : n < 10 ^ K) : NArg K W (.agg #[.bool neg, dv]) (sgn neg n) := ⟨neg, dv, n, rfl, h, hn, rfl⟩

set_option maxHeartbeats 1000000 in
theorem rof_calls (w : World) (z : Int) (h1 : -9223372036854775808 ≤ z) (h2 : z ≤ 9223372036854775807) :
    Calls Tryz.prog 63 #[.int .i64 z] w fun e w' => ∃ rv, e = .returned rv ∧ NRes w' rv z ∧ Below w.heap.size w w' := by
  have T0 := hide (Two.new w (.bool false) (.slice none 0 0) 32)
  have HB := hide (bel w (.cells #[.bool false, .slice none 0 0] 32))
  by_cases hz : z < 0
  · obtain ⟨n, rfl⟩ : ∃ n : Nat, z = -((n + 1 : Nat) : Int) := ⟨z.natAbs - 1, by omega⟩
    have hn : n < 9223372036854775808 := by omega
    have hw0 : -((n + 1 : Nat) : Int) + 1 = -(n : Int) := by omega
    have hw1 := wrap64_nat (n := n) (by omega)
    go_enter Tryz.func63, Tryz.ntmps63
    go_wp2_with fail
    rw [show (-(-((n : Int) + 1) + 1)) = (n : Int) by omega]
    refine (rsmall_calls _ n (by omega)).mono ?_
    rintro e w1 ⟨v1, rfl, q1, hb1⟩
    have Q1 := hide q1
    have B1 := hide hb1
    clear q1 hb1
    go_wp2_with fail
    refine (rsmall_calls _ 1 (by decide)).mono ?_
    rintro e w2 ⟨v2, rfl, q2, hb2⟩
    have Q1' := hide (Q1.out.below hb2)
    have l1 : n < 10 ^ 20 := lt19 (by omega)
    have l2 : 1 < 10 ^ 20 := by decide
    have l3 : n + 1 < 10 ^ 20 := lt19 (by omega)
    have L3 := hide l3
    have A1 := hide (Q1'.out.arg l1 (by decide))
    have A2 := hide (q2.arg l2 (by decide))
    have B2 := hide hb2
    clear Q1 Q1' q2 hb2 l1 l2 l3
    go_wp2_with fail
    refine (add_rres A1.out A2.out).mono ?_
    rintro e w3 ⟨v3, rfl, q3, hb3⟩
    obtain ⟨a3, L3', c3, rfl, _⟩ := q3.shape
    have N3 := hide (RRes.lit (neg := true) q3 L3.out)
    have U0 := hide (((T0.out.keep B1.out).keep B2.out).keep hb3)
    have KU := hide (bafter (bafter (bafter HB.out B1.out (Nat.le_refl _)) B2.out (Nat.le_refl _)) hb3 (Nat.le_refl _))
    clear q3 hb3 B1 B2 A1 A2 T0 HB
    go_wp2_with fail
    refine (rnorm_calls N3.out (by decide)).mono ?_
    rintro e w9 ⟨r9, rfl, q9, hb9⟩
    obtain ⟨b9, a9, L9, k9, rfl⟩ := q9.form
    have TZ := U0.out.keep hb9
    have KZ := bafter KU.out hb9 (Nat.le_refl _)
    have d0 := TZ.c0
    have d1 := TZ.c1
    have f0 := TZ.f0 0
    have f1 := TZ.f0 1
    have TZ' := hide TZ
    have KZ' := hide KZ
    clear TZ KZ hb9
    go_wp2
    refine bodyPost_ret (results_num rfl rfl (TZ'.out.put _ _)) rfl ?_
    exact ⟨_, rfl, q9.put TZ'.out _ _, below_put KZ'.out (by omega) _ _⟩
  · obtain ⟨n, rfl⟩ : ∃ n : Nat, z = (n : Int) := ⟨z.natAbs, by omega⟩
    have hw1 := wrap64_nat (n := n) (by omega)
    have hn : n < 18446744073709551616 := by omega
    go_enter Tryz.func63, Tryz.ntmps63
    go_wp2_with fail
    refine (rsmall_calls _ n hn).mono ?_
    rintro e w3 ⟨v3, rfl, q3, hb3⟩
    obtain ⟨a3, L3', c3, rfl, _⟩ := q3.shape
    have N3 := hide (RRes.lit (neg := false) q3 (lt19 (by omega)))
    have U0 := hide (T0.out.keep hb3)
    have KU := hide (bafter HB.out hb3 (Nat.le_refl _))
    clear q3 hb3 T0 HB
    go_wp2_with fail
    refine (rnorm_calls N3.out (by decide)).mono ?_
    rintro e w9 ⟨r9, rfl, q9, hb9⟩
    obtain ⟨b9, a9, L9, k9, rfl⟩ := q9.form
    have TZ := U0.out.keep hb9
    have KZ := bafter KU.out hb9 (Nat.le_refl _)
    have d0 := TZ.c0
    have d1 := TZ.c1
    have f0 := TZ.f0 0
    have f1 := TZ.f0 1
    have TZ' := hide TZ
    have KZ' := hide KZ
    clear TZ KZ hb9
    go_wp2
    refine bodyPost_ret (results_num rfl rfl (TZ'.out.put _ _)) rfl ?_
    exact ⟨_, rfl, q9.put TZ'.out _ _, below_put KZ'.out (by omega) _ _⟩

end Go.Proofs.YtnfplceadkelaaaGreatDoor
