/- The contracts of DivMod and Divides of numbers with a sign. -/
import Derived.Test.YtlfbhbeoodmccaaDoorBigCmp
namespace Go.Proofs.YtlfbhbeoodmccaaDoor
set_option linter.unusedVariables false
set_option linter.unusedSimpArgs false
set_option maxRecDepth 100000
open Go Go.RowKit Go.Shelf Go.Lib

theorem div_mod_cast (m n : Nat) : (n : Int) * ((m / n : Nat) : Int) + ((m % n : Nat) : Int) = (m : Int) := by
  have := Nat.div_add_mod m n
  have h2 : ((n * (m / n) + m % n : Nat) : Int) = (m : Int) := by rw [this]
  rw [Int.natCast_add, Int.natCast_mul] at h2
  exact h2

theorem spec_up {nb : Bool} {m n : Nat} (hn : n ≠ 0) (hr : m % n ≠ 0) : sgn (true != nb) (m / n + 1) = sgn true m / sgn nb n ∧ sgn false (n - m % n) = sgn true m % sgn nb n := by
  have hlt := Nat.mod_lt m (Nat.pos_of_ne_zero hn)
  have hd := div_mod_cast m n
  have hu := (Int.ediv_emod_unique (a := -(m : Int)) (b := (n : Int)) (r := ((n - m % n : Nat) : Int)) (q := -((m / n + 1 : Nat) : Int)) (by omega)).2 ⟨by
    rw [Int.natCast_add, Int.mul_neg, Int.mul_add]
    have : ((n - m % n : Nat) : Int) = (n : Int) - ((m % n : Nat) : Int) := by omega
    rw [this]
    generalize (n : Int) * ((m / n : Nat) : Int) = P at *
    generalize ((m % n : Nat) : Int) = r at *
    simp
    omega, by omega, by omega⟩
  cases nb
  · exact ⟨hu.1.symm, hu.2.symm⟩
  · refine ⟨?_, ?_⟩
    · show ((m / n + 1 : Nat) : Int) = -(m : Int) / -(n : Int)
      rw [Int.ediv_neg, hu.1]
      omega
    · show ((n - m % n : Nat) : Int) = -(m : Int) % -(n : Int)
      rw [Int.emod_neg, hu.2]

theorem spec_down {na nb : Bool} {m n : Nat} (hn : n ≠ 0) (hr : na = true → m % n = 0) : sgn (na != nb) (m / n) = sgn na m / sgn nb n ∧ sgn false (m % n) = sgn na m % sgn nb n := by
  have hlt := Nat.mod_lt m (Nat.pos_of_ne_zero hn)
  have hd := div_mod_cast m n
  have h1 : (m : Int) / (n : Int) = ((m / n : Nat) : Int) := rfl
  have h2 : (m : Int) % (n : Int) = ((m % n : Nat) : Int) := rfl
  have key : sgn na m / (n : Int) = sgn na (m / n) ∧ sgn na m % (n : Int) = ((m % n : Nat) : Int) := by
    cases na with
    | false => exact ⟨h1, h2⟩
    | true =>
      have h0 := hr rfl
      have hu := (Int.ediv_emod_unique (a := -(m : Int)) (b := (n : Int)) (r := 0) (q := -((m / n : Nat) : Int)) (by omega)).2 ⟨by
        rw [h0] at hd
        rw [Int.mul_neg]
        generalize (n : Int) * ((m / n : Nat) : Int) = P at *
        simp at hd ⊢
        omega, by omega, by omega⟩
      refine ⟨hu.1, ?_⟩
      show -(m : Int) % (n : Int) = _
      rw [hu.2, h0]
      rfl
  cases nb with
  | false => exact ⟨by rw [Bool.bne_false]; exact key.1.symm, key.2.symm⟩
  | true =>
    refine ⟨?_, ?_⟩
    · show sgn (na != true) (m / n) = sgn na m / -(n : Int)
      rw [Int.ediv_neg, key.1, Bool.bne_true, neg_sgn]
    · show ((m % n : Nat) : Int) = sgn na m % -(n : Int)
      rw [Int.emod_neg, key.2]

theorem results_big3 {fn : Func} {i j k : Tmp} (h : fn.results = #[.cell i 24, .cell j 24, .tmp k]) {tmps : Array Value} {W : World} {b b' : Nat} {x y x' y' : Value} {t : TypeId} {ev : Value} (hp : tmps.getD i undef = .pointer (some ⟨b, 0, none⟩)) (hq : tmps.getD j undef = .pointer (some ⟨b', 0, none⟩)) (he : tmps.getD k undef = ev) (T : Two W b x y t) (T' : Two W b' x' y' t) :
    (results fn tmps).run Tryd.prog W = .ok (.tuple #[.agg #[x, y], .agg #[x', y'], ev]) W := by
  have c0 := T.c0
  have c1 := T.c1
  have d0 := T'.c0
  have d1 := T'.c1
  have hp' : tmps[i]?.getD undef = .pointer (some ⟨b, 0, none⟩) := by simpa using hp
  have hq' : tmps[j]?.getD undef = .pointer (some ⟨b', 0, none⟩) := by simpa using hq
  have he' : tmps[k]?.getD undef = ev := by simpa using he
  simp [results, h, hp', hq', he', go_sem, c0, c1, d0, d1]

theorem boxes4 (w : World) (x0 y0 x1 y1 x2 y2 x3 y3 : Value) (t : TypeId) :
    let W := ((((w.alloc (.cells #[x0, y0] t)).alloc (.cells #[x1, y1] t)).alloc (.cells #[x2, y2] t)).alloc (.cells #[x3, y3] t))
    Two W w.heap.size x0 y0 t ∧ Two W (w.heap.size + 1) x1 y1 t ∧ Two W (w.heap.size + 1 + 1) x2 y2 t ∧ Two W (w.heap.size + 1 + 1 + 1) x3 y3 t ∧ Below w.heap.size w W := by
  obtain ⟨t0, t1, t2, hb⟩ := boxes w x0 y0 x1 y1 x2 y2 t
  refine ⟨t0.alloc _, t1.alloc _, t2.alloc _, ?_, hb.alloc (by simp; omega) _⟩
  have := Two.new (((w.alloc (.cells #[x0, y0] t)).alloc (.cells #[x1, y1] t)).alloc (.cells #[x2, y2] t)) x3 y3 t
  rw [World.size_alloc, World.size_alloc, World.size_alloc] at this
  exact this

theorem sg_ne {z : Int} (h : z ≠ 0) : sg z ≠ 0 := by
  rcases Int.lt_trichotomy z 0 with h1 | h1 | h1
  · rw [sg_neg h1]; decide
  · exact absurd h1 h
  · rw [sg_pos h1]; decide

theorem sg_true {m : Nat} (h : m ≠ 0) : sg (sgn true m) = -1 := sg_neg (by unfold sgn; rw [if_pos rfl]; omega)

set_option maxHeartbeats 2000000 in
theorem bdiv_zero {w : World} {u v : Value} {x y : Int} (hu : BArg w u x) (hv : BArg w v y) (h0 : y = 0) :
    Calls Tryd.prog 33 #[u, v] w fun e w' => e = .returned (.tuple #[.agg #[.bool false, .slice none 0 0], .agg #[.bool false, .slice none 0 0], .int .i64 4]) ∧ Below w.heap.size w w' := by
  obtain ⟨na, mu, m, rfl, hm, rfl⟩ := hu
  obtain ⟨nb, mv, n, rfl, hn, hy⟩ := hv
  obtain ⟨a, L, c, rfl⟩ := hm.shape
  obtain ⟨b, M, d, rfl⟩ := hn.shape
  have hn0 : n = 0 := by
    rw [h0] at hy
    unfold sgn at hy
    split at hy <;> omega
  obtain ⟨t0, t1, t2, t3, hb⟩ := boxes4 w (.bool na) (.slice a L c) (.bool nb) (.slice b M d) (.bool false) (.slice none 0 0) (.bool false) (.slice none 0 0) 24
  obtain ⟨xs, hl1, hl2, hl3⟩ := hm.below hb
  obtain ⟨ys, hk1, hk2, hk3⟩ := hn.below hb
  have T2 := hide t2
  have T3 := hide t3
  have HB := hide hb
  have Hc := hide (divMod_zero hl1 hk1 hl2 hk2 (by rw [hk3]; exact hn0))
  clear hm hn t0 t1 t2 t3 hb hl1 hl2 hl3 hk1 hk2 hk3 hy hn0 h0
  go_enter Tryd.func33, Tryd.ntmps33
  go_wp2_with fail
  refine Hc.out.mono ?_
  rintro e w1 ⟨rfl, hb1⟩
  have U2 := T2.out.keep hb1
  have U3 := T3.out.keep hb1
  have d0 := U2.c0
  have d1 := U2.c1
  have f0 := U2.f0 0
  have f1 := U2.f0 1
  have e0 := U3.c0
  have e1 := U3.c1
  have g0 := U3.f0 0
  have g1 := U3.f0 1
  have V2 := hide U2
  have V3 := hide U3
  have KB := hide (bafter HB.out hb1 (Nat.le_refl _))
  clear U2 U3 hb1
  go_wp2
  refine bodyPost_ret (results_big3 rfl rfl rfl rfl ((V2.out.put _ _).other (by omega) _ _) ((V3.out.other (by omega) _ _).put _ _)) rfl ?_
  exact ⟨rfl, below_put (below_put KB.out (by omega) _ _) (by omega) _ _⟩

set_option maxHeartbeats 4000000 in
theorem bdiv_calls {w : World} {u v : Value} {x y : Int} (hu : BArg w u x) (hv : BArg w v y) (h0 : y ≠ 0) :
    Calls Tryd.prog 33 #[u, v] w fun e w' => ∃ q r, e = .returned (.tuple #[q, r, .int .i64 0]) ∧ BRes w' q (x / y) ∧ BRes w' r (x % y) ∧ Below w.heap.size w w' := by
  obtain ⟨na, mu, m, rfl, hm, hx⟩ := hu
  obtain ⟨nb, mv, n, rfl, hn, hy⟩ := hv
  obtain ⟨a, L, c, rfl⟩ := hm.shape
  obtain ⟨b, M, d, rfl⟩ := hn.shape
  have hn0 : n ≠ 0 := by
    intro e
    rw [e] at hy
    apply h0
    rw [hy]
    unfold sgn
    split <;> rfl
  obtain ⟨t0, t1, t2, t3, hb⟩ := boxes4 w (.bool na) (.slice a L c) (.bool nb) (.slice b M d) (.bool false) (.slice none 0 0) (.bool false) (.slice none 0 0) 24
  have T0 := hide t0
  have T1 := hide t1
  have T2 := hide t2
  have T3 := hide t3
  have HB := hide hb
  have Hm := hide (hm.below hb)
  have Hn := hide (hn.below hb)
  have Hn0 := hide hn0
  have Hx := hide hx
  have Hy := hide hy
  have Hbm := hide hm.bound
  have Hbn := hide hn.bound
  clear hm hn t0 t1 t2 t3 hb hn0 h0 hx hy
  go_enter Tryd.func33, Tryd.ntmps33
  go_wp2_with fail
  refine (divMod_res Hm.out Hn.out Hn0.out).mono ?_
  rintro e w1 ⟨q, r, rfl, hq, hr, hb1⟩
  obtain ⟨ar, Lr, cr, rfl, hLr⟩ := hr.shape
  have U0 := hide (T0.out.keep hb1)
  have c0 := U0.out.c0
  have c1 := U0.out.c1
  have U1 := hide (T1.out.keep hb1)
  have U2 := hide (T2.out.keep hb1)
  have U3 := hide (T3.out.keep hb1)
  have KU := hide (bafter HB.out hb1 (Nat.le_refl _))
  have Ua := hide (show BArg w1 (.agg #[.bool na, .slice a L c]) x from ⟨na, _, m, rfl, Hm.out.below hb1, Hx.out⟩)
  have Un := hide (Hn.out.below hb1)
  have Hq := hide hq
  have Hr := hide hr
  clear T0 T1 T2 T3 HB Hm Hn hb1 hq hr
  go_wp2_with fail
  refine (sign_calls Ua.out).mono ?_
  rintro e w2 ⟨rfl, hb2⟩
  have Y0 := hide (U0.out.keep hb2)
  have Y1 := hide (U1.out.keep hb2)
  have Y2 := hide (U2.out.keep hb2)
  have Y3 := hide (U3.out.keep hb2)
  have KY := hide (bafter KU.out hb2 (Nat.le_refl _))
  have QQ := hide (Hq.out.below hb2)
  have RR := hide (Hr.out.below hb2)
  have Yn := hide (Un.out.below hb2)
  clear U0 U1 U2 U3 KU Ua Un Hq Hr hb2 c0 c1
  by_cases hA : na = true ∧ m % n ≠ 0
  · obtain ⟨rfl, hr0⟩ := hA
    have hm0 : m ≠ 0 := fun e => hr0 (by rw [e, Nat.zero_mod])
    have hs : sg x = -1 := by rw [Hx.out]; exact sg_true hm0
    have hL0 : (Lr : Int) > 0 := by
      have : Lr ≠ 0 := fun e => hr0 (hLr.1 e)
      omega
    have Sp := hide (spec_up (nb := nb) Hn0.out hr0)
    rw [← Hx.out, ← Hy.out, Bool.true_bne] at Sp
    rw [hs]
    have hle : m % n ≤ n := Nat.le_of_lt (Nat.mod_lt _ (Nat.pos_of_ne_zero Hn0.out))
    have Hle := hide hle
    clear hr0 hm0 hs hLr hle
    have Aq : Hid (Arg w2 q (m / n)) := by
      obtain ⟨k, hk, hlt⟩ := Hbm.out
      exact QQ.out.arg (Nat.lt_of_le_of_lt (Nat.div_le_self _ _) hlt) hk
    have Ar : Hid (Arg w2 (.slice ar Lr cr) (m % n)) := by
      obtain ⟨k, hk, hlt⟩ := Hbn.out
      exact RR.out.arg (Nat.lt_of_le_of_lt Hle.out hlt) hk
    go_wp2_with fail
    refine (of_res _ 1 (by decide)).mono ?_
    rintro e w3 ⟨one, rfl, q3, hb3⟩
    have Aone : Hid (Arg w3 one 1) := q3.arg (k := 1) (by decide) (by decide)
    have Aq3 := hide (Aq.out.below hb3)
    have Ar3 := hide (Ar.out.below hb3)
    have An3 := hide (Yn.out.below hb3)
    have Z0 := hide (Y0.out.keep hb3)
    have Z1 := hide (Y1.out.keep hb3)
    have Z2 := hide (Y2.out.keep hb3)
    have Z3 := hide (Y3.out.keep hb3)
    have KZ := hide (bafter KY.out hb3 (Nat.le_refl _))
    clear Aq Ar Yn Y0 Y1 Y2 Y3 KY hb3 QQ RR q3
    go_wp2_with fail
    refine (add_res Aq3.out Aone.out).mono ?_
    rintro e w4 ⟨qq, rfl, q4, hb4⟩
    have z1 := (Z1.out.keep hb4).c1
    have Ar4 := hide (Ar3.out.below hb4)
    have An4 := hide (An3.out.below hb4)
    have O0 := hide (Z0.out.keep hb4)
    have O1 := hide (Z1.out.keep hb4)
    have O2 := hide (Z2.out.keep hb4)
    have O3 := hide (Z3.out.keep hb4)
    have KO := hide (bafter KZ.out hb4 (Nat.le_refl _))
    have Q4 := hide q4
    clear Aq3 Ar3 An3 Aone Z0 Z1 Z2 Z3 KZ hb4 q4
    go_wp2_with fail
    refine (sub_big An4.out Ar4.out Hle.out).mono ?_
    rintro e w5 ⟨rr, rfl, q5, hb5⟩
    have x0 := (O0.out.keep hb5).c0
    have x1 := (O1.out.keep hb5).c0
    have Y2 := hide (O2.out.keep hb5)
    have Y3 := hide (O3.out.keep hb5)
    have KY := hide (bafter KO.out hb5 (Nat.le_refl _))
    have QQ := hide (Q4.out.below hb5)
    have RR := hide q5
    clear An4 Ar4 O0 O1 O2 O3 KO Q4 q5 hb5
    go_wp2_with fail
    refine (signed_calls QQ.out).mono ?_
    rintro e w8 ⟨r8, rfl, q8, hb8⟩
    obtain ⟨b8, a8, L8, k8, rfl⟩ := q8.form
    have RR8 := hide (RR.out.below hb8)
    have P2 := hide (Y2.out.keep hb8)
    have P3 := hide (Y3.out.keep hb8)
    have KP := hide (bafter KY.out hb8 (Nat.le_refl _))
    clear hb8 Y2 Y3 KY RR QQ
    go_wp2_with fail
    refine (signed_calls RR8.out).mono ?_
    rintro e w9 ⟨r9, rfl, q9, hb9⟩
    obtain ⟨b9, a9, L9, k9, rfl⟩ := q9.form
    have q8' := hide (q8.below hb9)
    have q9' := hide q9
    have U2 := P2.out.keep hb9
    have U3 := P3.out.keep hb9
    have d0 := U2.c0
    have d1 := U2.c1
    have f0 := U2.f0 0
    have f1 := U2.f0 1
    have e0 := U3.c0
    have e1 := U3.c1
    have g0 := U3.f0 0
    have g1 := U3.f0 1
    have V2 := hide U2
    have V3 := hide U3
    have KB := hide (bafter KP.out hb9 (Nat.le_refl _))
    clear U2 U3 hb9 P2 P3 KP q8 q9
    go_wp2
    refine bodyPost_ret (results_big3 rfl rfl rfl rfl ((V2.out.put _ _).other (by omega) _ _) ((V3.out.other (by omega) _ _).put _ _)) rfl ?_
    have X3 := V3.out.other (show w.heap.size + 1 + 1 + 1 ≠ w.heap.size + 1 + 1 by omega) (.bool b8) (.slice a8 L8 k8)
    refine ⟨_, _, rfl, ?_, ?_, below_put (below_put KB.out (by omega) _ _) (by omega) _ _⟩
    · rw [← Sp.out.1]
      exact (q8'.out.put V2.out _ _).put X3 _ _
    · rw [← Sp.out.2]
      exact (q9'.out.put V2.out _ _).put X3 _ _
  · have Sp := hide (spec_down (na := na) (nb := nb) Hn0.out (fun e => Decidable.byContradiction fun h => hA ⟨e, h⟩))
    rw [← Hx.out, ← Hy.out] at Sp
    by_cases hs : sg x < 0
    · have hr0 : m % n = 0 := by
        apply Decidable.byContradiction
        intro h
        refine hA ⟨?_, h⟩
        cases na with
        | true => rfl
        | false =>
          rw [Hx.out] at hs
          unfold sg sgn at hs
          simp at hs
          split at hs <;> (try split at hs) <;> omega
      obtain rfl : Lr = 0 := hLr.2 hr0
      clear hA hr0 hLr
      generalize sg x = sx at *
      have x0 := Y0.out.c0
      have x1 := Y1.out.c0
      go_wp2_with fail
      refine (signed_calls QQ.out).mono ?_
      rintro e w8 ⟨r8, rfl, q8, hb8⟩
      obtain ⟨b8, a8, L8, k8, rfl⟩ := q8.form
      have RR8 := hide (RR.out.below hb8)
      have P2 := hide (Y2.out.keep hb8)
      have P3 := hide (Y3.out.keep hb8)
      have KP := hide (bafter KY.out hb8 (Nat.le_refl _))
      clear hb8 Y2 Y3 KY RR QQ
      go_wp2_with fail
      refine (signed_calls RR8.out).mono ?_
      rintro e w9 ⟨r9, rfl, q9, hb9⟩
      obtain ⟨b9, a9, L9, k9, rfl⟩ := q9.form
      have q8' := hide (q8.below hb9)
      have q9' := hide q9
      have U2 := P2.out.keep hb9
      have U3 := P3.out.keep hb9
      have d0 := U2.c0
      have d1 := U2.c1
      have f0 := U2.f0 0
      have f1 := U2.f0 1
      have e0 := U3.c0
      have e1 := U3.c1
      have g0 := U3.f0 0
      have g1 := U3.f0 1
      have V2 := hide U2
      have V3 := hide U3
      have KB := hide (bafter KP.out hb9 (Nat.le_refl _))
      clear U2 U3 hb9 P2 P3 KP q8 q9
      go_wp2
      refine bodyPost_ret (results_big3 rfl rfl rfl rfl ((V2.out.put _ _).other (by omega) _ _) ((V3.out.other (by omega) _ _).put _ _)) rfl ?_
      have X3 := V3.out.other (show w.heap.size + 1 + 1 + 1 ≠ w.heap.size + 1 + 1 by omega) (.bool b8) (.slice a8 L8 k8)
      refine ⟨_, _, rfl, ?_, ?_, below_put (below_put KB.out (by omega) _ _) (by omega) _ _⟩
      · rw [← Sp.out.1]
        exact (q8'.out.put V2.out _ _).put X3 _ _
      · rw [← Sp.out.2]
        exact (q9'.out.put V2.out _ _).put X3 _ _
    · clear hA hLr
      generalize sg x = sx at *
      have x0 := Y0.out.c0
      have x1 := Y1.out.c0
      go_wp2_with fail
      refine (signed_calls QQ.out).mono ?_
      rintro e w8 ⟨r8, rfl, q8, hb8⟩
      obtain ⟨b8, a8, L8, k8, rfl⟩ := q8.form
      have RR8 := hide (RR.out.below hb8)
      have P2 := hide (Y2.out.keep hb8)
      have P3 := hide (Y3.out.keep hb8)
      have KP := hide (bafter KY.out hb8 (Nat.le_refl _))
      clear hb8 Y2 Y3 KY RR QQ
      go_wp2_with fail
      refine (signed_calls RR8.out).mono ?_
      rintro e w9 ⟨r9, rfl, q9, hb9⟩
      obtain ⟨b9, a9, L9, k9, rfl⟩ := q9.form
      have q8' := hide (q8.below hb9)
      have q9' := hide q9
      have U2 := P2.out.keep hb9
      have U3 := P3.out.keep hb9
      have d0 := U2.c0
      have d1 := U2.c1
      have f0 := U2.f0 0
      have f1 := U2.f0 1
      have e0 := U3.c0
      have e1 := U3.c1
      have g0 := U3.f0 0
      have g1 := U3.f0 1
      have V2 := hide U2
      have V3 := hide U3
      have KB := hide (bafter KP.out hb9 (Nat.le_refl _))
      clear U2 U3 hb9 P2 P3 KP q8 q9
      go_wp2
      refine bodyPost_ret (results_big3 rfl rfl rfl rfl ((V2.out.put _ _).other (by omega) _ _) ((V3.out.other (by omega) _ _).put _ _)) rfl ?_
      have X3 := V3.out.other (show w.heap.size + 1 + 1 + 1 ≠ w.heap.size + 1 + 1 by omega) (.bool b8) (.slice a8 L8 k8)
      refine ⟨_, _, rfl, ?_, ?_, below_put (below_put KB.out (by omega) _ _) (by omega) _ _⟩
      · rw [← Sp.out.1]
        exact (q8'.out.put V2.out _ _).put X3 _ _
      · rw [← Sp.out.2]
        exact (q9'.out.put V2.out _ _).put X3 _ _

set_option maxHeartbeats 1000000 in
theorem divides_calls {w : World} {u v : Value} {x y : Int} (hu : BArg w u x) (hv : BArg w v y) :
    Calls Tryd.prog 31 #[u, v] w fun e w' => e = .returned (.bool (decide (x ∣ y))) ∧ Below w.heap.size w w' := by
  obtain ⟨na, mu, m, rfl, hm, hx⟩ := hu
  obtain ⟨nb, mv, n, rfl, hn, hy⟩ := hv
  obtain ⟨a, L, c, rfl⟩ := hm.shape
  obtain ⟨b, M, d, rfl⟩ := hn.shape
  obtain ⟨t0, t1, hb⟩ := boxes2 w (.bool na) (.slice a L c) (.bool nb) (.slice b M d) 24
  have T0 := hide t0
  have T1 := hide t1
  have HB := hide hb
  have Hm := hide (hm.below hb)
  have Hn := hide (hn.below hb)
  have Ha := hide (show BArg _ (.agg #[.bool na, .slice a L c]) x from ⟨na, _, m, rfl, hm.below hb, hx⟩)
  have Hb := hide (show BArg _ (.agg #[.bool nb, .slice b M d]) y from ⟨nb, _, n, rfl, hn.below hb, hy⟩)
  have Hx := hide hx
  have Hy := hide hy
  have hxa : x.natAbs = m := by rw [hx]; unfold sgn; split <;> simp
  have hya : y.natAbs = n := by rw [hy]; unfold sgn; split <;> simp
  have Hdv : Hid (x ∣ y ↔ m ∣ n) := by
    show _ ↔ _
    rw [← Int.natAbs_dvd_natAbs, hxa, hya]
  have Hxa := hide hxa
  have Hya := hide hya
  clear hm hn t0 t1 hb hx hy hxa hya
  by_cases hm0 : m = 0
  · have hsx : sg x = 0 := by
      have : x = 0 := by have := Hxa.out; omega
      rw [this]; rfl
    have Hm0 := hide hm0
    clear hm0
    by_cases hn0 : n = 0
    · have hsy : sg y = 0 := by
        have : y = 0 := by have := Hya.out; omega
        rw [this]; rfl
      have Hd : Hid (decide (x ∣ y) = true) := decide_eq_true (Hdv.out.2 (by rw [Hm0.out, hn0]; exact Nat.dvd_refl 0))
      clear hn0
      go_enter Tryd.func31, Tryd.ntmps31
      go_wp2_with fail
      refine (sign_calls Ha.out).mono ?_
      rintro e w1 ⟨rfl, hb1⟩
      rw [hsx]
      have c2 := (T1.out.keep hb1).c0
      have c3 := (T1.out.keep hb1).c1
      go_wp2_with fail
      refine (sign_calls (Hb.out.below hb1)).mono ?_
      rintro e w2 ⟨rfl, hb2⟩
      rw [hsy]
      go_wp2
      go_ret
      exact ⟨by rw [Hd.out]; rfl, bafter (bafter HB.out hb1 (Nat.le_refl _)) hb2 (Nat.le_refl _)⟩
    · have hsy : (sg y == 0) = false := by
        have : y ≠ 0 := fun e => hn0 (by have := Hya.out; rw [e] at this; simpa using this.symm)
        exact beq_eq_false_iff_ne.2 (sg_ne this)
      have Hd : Hid (decide (x ∣ y) = false) := decide_eq_false (fun h => hn0 (Nat.eq_zero_of_zero_dvd (by rw [← Hm0.out]; exact Hdv.out.1 h)))
      clear hn0
      go_enter Tryd.func31, Tryd.ntmps31
      go_wp2_with fail
      refine (sign_calls Ha.out).mono ?_
      rintro e w1 ⟨rfl, hb1⟩
      rw [hsx]
      have c2 := (T1.out.keep hb1).c0
      have c3 := (T1.out.keep hb1).c1
      go_wp2_with fail
      refine (sign_calls (Hb.out.below hb1)).mono ?_
      rintro e w2 ⟨rfl, hb2⟩
      generalize sg y = sy at *
      go_wp2
      go_ret
      exact ⟨by rw [Hd.out]; rfl, bafter (bafter HB.out hb1 (Nat.le_refl _)) hb2 (Nat.le_refl _)⟩
  · have hsx : (sg x == 0) = false := by
      have : x ≠ 0 := fun e => hm0 (by have := Hxa.out; rw [e] at this; simpa using this.symm)
      exact beq_eq_false_iff_ne.2 (sg_ne this)
    have Hm0 := hide hm0
    clear hm0
    go_enter Tryd.func31, Tryd.ntmps31
    go_wp2_with fail
    refine (sign_calls Ha.out).mono ?_
    rintro e w1 ⟨rfl, hb1⟩
    generalize sg x = sx at *
    have c1 := (T0.out.keep hb1).c1
    have c3 := (T1.out.keep hb1).c1
    go_wp2_with fail
    refine (divMod_res (Hn.out.below hb1) (Hm.out.below hb1) Hm0.out).mono ?_
    rintro e w2 ⟨q, r, rfl, hq, hr, hb2⟩
    obtain ⟨ar, Lr, cr, rfl, hLr⟩ := hr.shape
    have Hd : Hid (decide (x ∣ y) = decide (Lr = 0)) := by
      show _ = _
      congr 1
      rw [hLr, ← Nat.dvd_iff_mod_eq_zero]
      exact propext Hdv.out
    clear hLr hq hr
    go_wp2
    go_ret
    refine ⟨?_, bafter (bafter HB.out hb1 (Nat.le_refl _)) hb2 (Nat.le_refl _)⟩
    rw [Hd.out]
    have e5 : ((Lr : Int) == 0) = decide (Lr = 0) := by
      by_cases h : Lr = 0
      · subst h; rfl
      · rw [decide_eq_false h]
        exact beq_eq_false_iff_ne.2 (by omega)
    simp [e5]

end Go.Proofs.YtlfbhbeoodmccaaDoor
