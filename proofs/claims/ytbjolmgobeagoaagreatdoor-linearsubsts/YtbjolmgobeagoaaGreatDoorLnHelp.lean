/- The law's own functions: small, sameNum, num; light. -/
import Derived.Test.YtbjolmgobeagoaaGreatDoorLnSummed
import Derived.Test.YtbjolmgobeagoaaGreatDoorBigRef2
namespace Go.Proofs.YtbjolmgobeagoaaGreatDoor
set_option linter.unusedVariables false
set_option linter.unusedSimpArgs false
set_option maxRecDepth 100000
open Go Go.RowKit Go.Shelf Go.Lib

set_option maxHeartbeats 1000000 in
theorem gsmall_yes {w : World} {neg : Bool} {a : Option Addr} {L c : Nat} (h : L ≤ 4) :
    Calls Tryz.prog 26 #[.agg #[.bool neg, .slice a L c]] w fun e w' => e = .returned (.bool true) ∧ Below w.heap.size w w' := by
  have d1 : decide ((L : Int) ≤ 4) = true := decide_eq_true (by omega)
  go_enter Tryz.func26, Tryz.ntmps26
  go_wp2
  go_ret
  exact ⟨by simp, bel w _⟩

set_option maxHeartbeats 1000000 in
theorem gsmall_no {w : World} {neg : Bool} {a : Option Addr} {L c : Nat} (h : ¬ L ≤ 4) :
    Calls Tryz.prog 26 #[.agg #[.bool neg, .slice a L c]] w fun e w' => e = .returned (.bool false) ∧ Below w.heap.size w w' := by
  have d1 : decide ((L : Int) ≤ 4) = false := decide_eq_false (by omega)
  go_enter Tryz.func26, Tryz.ntmps26
  go_wp2
  go_ret
  exact ⟨by simp, bel w _⟩

set_option maxHeartbeats 2000000 in
theorem gsame_true {K : Nat} {w : World} {u v : Value} {z : Int} (hu : BRes w u z) (hv : NArg K w v z) (hK : K ≤ 1000) :
    Calls Tryz.prog 15 #[u, v] w fun e w' => e = .returned (.bool true) ∧ Below w.heap.size w w' := by
  obtain ⟨mv, rfl, hm⟩ := hu
  obtain ⟨neg, dv, n, rfl, hd, hn, hz⟩ := hv
  obtain ⟨a, L, c, rfl, _⟩ := hm.shape
  obtain ⟨b, M, d, rfl, _⟩ := hd.shape
  have t0 := (Two.new w (.bool (decide (z < 0))) (.slice a L c) 24).alloc (.cells #[.bool neg, .slice b M d] 32)
  have hb : Below w.heap.size w ((w.alloc (.cells #[.bool (decide (z < 0)), .slice a L c] 24)).alloc (.cells #[.bool neg, .slice b M d] 32)) := (bel w _).alloc (by simp) _
  have T0 := hide t0
  have HB := hide hb
  have Hm := hide (hm.below hb)
  have Hd := hide (show NArg K _ (.agg #[.bool neg, .slice b M d]) z from ⟨neg, _, n, rfl, hd.below hb, hn, hz⟩)
  have hzn : z.natAbs = n := by rw [hz]; unfold sgn; split <;> simp
  have Hzn : Hid (z.natAbs < 10 ^ K) := by show _ < _; rw [hzn]; exact hn
  generalize hsz : decide (z < 0) = sz at *
  have Hsz := hide hsz
  clear hm hd hn hz hb t0 hzn hsz
  go_enter Tryz.func15, Tryz.ntmps15
  go_wp2_with fail
  refine (rnorm_calls Hd.out hK).mono ?_
  rintro e w1 ⟨r1, rfl, q1, hb1⟩
  obtain ⟨dv, rfl, q2⟩ := q1
  rw [Hsz.out]
  obtain ⟨a1, L1, c1, rfl, _⟩ := q2.shape
  have U0 := hide ((T0.out.keep hb1).alloc (.cells #[.bool sz, .slice a1 L1 c1] 32)).drew
  have U1 := hide (Two.new w1 (.bool sz) (.slice a1 L1 c1) 32).drew
  have KU := hide (((bafter HB.out hb1 (Nat.le_refl _)).alloc (bafter HB.out hb1 (Nat.le_refl _)).size (.cells #[.bool sz, .slice a1 L1 c1] 32))).drew
  have Q2 := hide (((q2.below (bel w1 (.cells #[.bool sz, .slice a1 L1 c1] 32))).below ((Below.refl _ _).drew)).arg Hzn.out (by omega))
  have Qm := hide (((Hm.out.below hb1).below (bel w1 (.cells #[.bool sz, .slice a1 L1 c1] 32))).below ((Below.refl _ _).drew))
  have y0 := (T0.out.keep hb1).c0
  have y1 := (T0.out.keep hb1).c1
  have hlt : w.heap.size < w1.heap.size := by have := hb1.size; simp at this; omega
  have ne1 : ¬ w1.heap.size = w.heap.size := by omega
  have ne2 : ¬ w.heap.size = w1.heap.size := by omega
  clear q2 Hd Hm T0 HB hb1 hlt
  go_wp2
  go_region_held3 (fun w' => w'.cell? ⟨w.heap.size, 0, none⟩ = some (.bool sz) ∧ w'.cell? ⟨w.heap.size, 1, none⟩ = some (.slice a L c) ∧ w'.cell? ⟨w1.heap.size, 0, none⟩ = some (.bool sz) ∧ w'.cell? ⟨w1.heap.size, 1, none⟩ = some (.slice a1 L1 c1)) (go_keep)
    (first
      | (go_at_call 59; refine (rlimbs_calls Q2.out Hzn.out hK).mono ?_; rintro e w2 ⟨r2, rfl, q3, hb2⟩; have c0' := (U0.out.keep hb2).c0; have c1' := (U0.out.keep hb2).c1; have c2' := (U1.out.keep hb2).c0; have c3' := (U1.out.keep hb2).c1)
      | (go_at_call 58; refine (words_resW (Qm.out.below hb2).weak q3 rfl).mono ?_; rintro e w3 ⟨rfl, hb3⟩; have c0'' := ((U0.out.keep hb2).keep hb3).c0; have c1'' := ((U0.out.keep hb2).keep hb3).c1; have c2'' := ((U1.out.keep hb2).keep hb3).c0; have c3'' := ((U1.out.keep hb2).keep hb3).c1))
  go_wp2
  go_ret
  exact ⟨rfl, bafter (bafter KU.out hb2 (Nat.le_refl _)) hb3 (Nat.le_refl _)⟩


set_option maxHeartbeats 1000000 in
theorem gnum_calls {w : World} {neg : Bool} {a : Option Addr} {L c : Nat} {xs : List Nat} (h : Limbs w (.slice a L c) xs) (hl : xs.length ≤ 8) :
    Calls Tryz.prog 33 #[.agg #[.bool neg, .slice a L c]] w fun e w' => ∃ rv, e = .returned rv ∧ NRes w' rv (sgn neg (val R xs)) ∧ Below w.heap.size w w' := by
  have tz := Two.new1 w (.cells #[.bool neg, .slice a L c] 24) (.bool false) (.slice none 0 0) 32
  have hba : Below w.heap.size w ((w.alloc (.cells #[.bool neg, .slice a L c] 24)).alloc (.cells #[.bool false, .slice none 0 0] 32)) := (bel _ _).trans ((bel _ _).mono (by simp))
  have hfr := rnfrom_calls (neg := neg) (h.below hba) hl
  have TZ := hide tz
  have HBA := hide hba
  clear tz hba h
  go_enter Tryz.func33, Tryz.ntmps33
  go_wp2_with fail
  refine hfr.mono ?_
  rintro e w1 ⟨v1, rfl, hr1, hb1⟩
  obtain ⟨nb, na, nL, nc, rfl⟩ := hr1.form
  have TZ1 := hide (TZ.out.keep hb1)
  have HB1 := hide (bafter HBA.out hb1 (Nat.le_refl _))
  have HR1 := hide hr1
  obtain ⟨d0, d1, f0, f1, _, _⟩ := TZ1.out.every
  clear hfr hr1 hb1
  go_wp2
  refine bodyPost_ret (results_num rfl rfl (TZ1.out.put _ _)) rfl ?_
  exact ⟨_, rfl, HR1.out.put TZ1.out _ _, below_put HB1.out (by omega) _ _⟩

end Go.Proofs.YtbjolmgobeagoaaGreatDoor
