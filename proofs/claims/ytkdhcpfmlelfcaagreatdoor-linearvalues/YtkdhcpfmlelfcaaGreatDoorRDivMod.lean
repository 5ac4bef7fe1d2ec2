/- The reference's DivMod: the quotient and the rest, digit by digit. -/
import Derived.Test.YtkdhcpfmlelfcaaGreatDoorBSubs
import Derived.Deep.CutRange
namespace Go.Proofs.YtkdhcpfmlelfcaaGreatDoor
set_option linter.unusedVariables false
set_option linter.unusedSimpArgs false
open Go Go.RowKit Go.Shelf

theorem set_zero {zs : List Nat} {j : Nat} (h : nth zs j = 0) : zs.set j 0 = zs := by
  by_cases hj : j < zs.length
  · rw [nth_eq hj] at h
    rw [← h]
    exact List.set_getElem_self hj
  · exact List.set_eq_of_length_le (by omega)

theorem cmpI_ge {a b : Nat} (h : b ≤ a) : cmpI (a : Int) (b : Int) ≥ 0 := by unfold cmpI; split <;> (try split) <;> omega
theorem cmpI_not_ge {a b : Nat} (h : a < b) : ¬ cmpI (a : Int) (b : Int) ≥ 0 := by unfold cmpI; split <;> (try split) <;> omega

theorem nth_set_lt {zs : List Nat} {j c i : Nat} (h : i < j) : nth (zs.set j c) i = nth zs i := nth_set_other zs (by omega) c

theorem small_set {zs : List Nat} (hs : Small 10 zs) (j : Nat) {c : Nat} (hc : c < 10) : Small 10 (zs.set j c) := hs.set j c hc

set_option maxRecDepth 100000 in
set_option maxHeartbeats 2000000 in
theorem rdivmod_calls {w : World} {av bv : Value} {m n kn : Nat} (hx : RArg w av m) (hy : RArg w bv n) (hn0 : n ≠ 0) (hkn : n < 10 ^ kn) (hk9 : kn ≤ 1000) :
    Calls Tryz.prog 90 #[av, bv] w fun e w' => ∃ q r, e = .returned (.tuple #[q, r]) ∧ RNew w.heap.size w' q (m / n) ∧ RNew w.heap.size w' r (m % n) ∧ Below w.heap.size w w' := by
  obtain ⟨xs, hx0, cx, rfl, lx⟩ := hx
  obtain ⟨ao, ca, rfl⟩ := hx0.len
  have Hkn := hide hkn
  clear hkn
  go_enter Tryz.func90, Tryz.ntmps90
  go_wp2_with (at_make; refine wpList_mkI rfl _ rfl xs.length rfl (by omega) ?_; intro w1 hr1 hb1 hz1)
  go_loopw [7, 8] (fun rv iv wr => ∃ (k : Nat) (i : Int) (r : Nat) (zs : List Nat), iv = .int .i64 i ∧ i = (k : Int) - 1 ∧ k ≤ xs.length ∧ RNew (w.heap.size + 1) wr rv r ∧ r < n ∧ RowI wr w.heap.size zs ∧ zs.length = xs.length ∧ Small 10 zs ∧ (∀ t, t < k → nth zs t = 0) ∧ val 10 (xs.drop k) = val 10 (zs.drop k) * n + r ∧ Below w.heap.size w wr) (fun _ iv _ => (intOf iv + 1).toNat)
  case atStart => exact ⟨xs.length, _, 0, List.replicate xs.length 0, rfl, rfl, Nat.le_refl _, RNew.nil _ _, by omega, hr1, by simp, fun x hx => by rw [(List.mem_replicate.1 hx).2]; decide, fun t ht => by rw [nth_eq (by simpa using ht)]; simp, by simp [val_nil], hb1⟩
  case round =>
    obtain ⟨k, i, r, zs, rfl, hi, hk, hrest, hrn, hrow, hlen, hs, hzero, hval, hB⟩ := hrel
    have HB := hide hB
    have Hrest := hide hrest
    have Hrow := hide hrow
    have Hlen := hide hlen
    have Hs := hide hs
    have Hzero := hide hzero
    have Hval := hide hval
    clear hB hrest hrow hlen hs hzero hval hb1 hz1 hr1
    rcases Nat.eq_zero_or_pos k with rfl | hkp
    · obtain rfl : i = -1 := by omega
      have hno : ¬ ((-1 : Int) ≥ 0) := by omega
      have hdg := Hrow.out.digs Hs.out
      rw [Hlen.out] at hdg
      have Hdg := hide hdg
      have HX := hide hx0
      clear hx0 hi hdg
      go_wp2_with (go_at_call 88; go_must (refine (trim_res wr _ zs Hdg.out (by have := Hlen.out; omega)).mono ?_; rintro e w2 ⟨q, rfl, hq, hb2⟩))
      go_ret2
      have hv := Hval.out
      rw [List.drop_zero, List.drop_zero] at hv
      have e1 : val 10 xs / n = val 10 zs := by rw [hv, Nat.mul_comm, Nat.mul_add_div (by omega), Nat.div_eq_of_lt hrn]; rfl
      have e2 : val 10 xs % n = r := by rw [hv, Nat.mul_comm, Nat.mul_add_mod, Nat.mod_eq_of_lt hrn]
      rw [e1, e2]
      exact ⟨_, _, rfl, hq.mono HB.out.size, (Hrest.out.keep hb2).mono (by omega), HB.out.trans (hb2.mono HB.out.size)⟩
    · obtain ⟨j, rfl⟩ : ∃ j, k = j + 1 := ⟨k - 1, by omega⟩
      obtain rfl : i = (j : Int) := by omega
      obtain ⟨b2, o2, eb⟩ := hx0.addr (j := j) (by omega)
      subst eb
      have c2 : wr.cell? ⟨b2, o2 + j, none⟩ = some (.int .i64 ((nth xs j : Nat) : Int)) := (hx0.below HB.out).cellAt rfl (by omega)
      have hd9 : nth xs j < 10 := hx0.small.nth (by decide) j
      have hwrap := wrap64_nat (n := nth xs j) (by omega)
      have dj : (j : Int) < (xs.length : Int) := by omega
      have dge : (j : Int) ≥ 0 := by omega
      have l0 : r < 10 ^ kn := Nat.lt_trans hrn Hkn.out
      have A1 : RArg wr u7 r := Hrest.out.res.arg l0 (by omega)
      have l1 : r * 10 < 10 ^ (kn + 1) := lt_more l0 10 (Nat.le_refl _)
      have l2 : nth xs j < 10 ^ 1 := by omega
      have HA1 := hide A1
      have Hl1 := hide l1
      have Hl2 := hide l2
      have HX := hide hx0
      have HY := hide hy
      clear A1 l0 l1 l2 hx0 hi hy
      go_upto_region 6 with fail
      go_cut [7] from 15 to 40 (fun rv wx => RNew (w.heap.size + 1) wx rv (r * 10 + nth xs j) ∧ RowI wx w.heap.size zs ∧ Below w.heap.size w wx)
      case first =>
        go_region_with (first
          | (go_at_call 94; go_must (refine (add_new (W := w3) ?_ (q1'.arg Hl1.out (by omega)) (q2.arg Hl2.out (by omega))).mono ?_; (first | exact Below.refl _ _ | exact (Below.refl _ _).drew | exact (Below.refl _ _).drew.drew); rintro e w4 ⟨r3, rfl, q3, hb4⟩))
          | (go_at_call 89; go_must (refine (small_from (W := w2) (n := nth xs j) ?_ (by omega)).mono ?_; (first | exact Below.refl _ _ | exact (Below.refl _ _).drew | exact (Below.refl _ _).drew.drew); rintro e w3 ⟨r2, rfl, q2, hb3⟩; have q1' := q1.below hb3))
          | (go_at_call 118; go_must (refine (times_from (W := wr) (n := 10) ?_ HA1.out (by decide)).mono ?_; (first | exact Below.refl _ _ | exact (Below.refl _ _).drew | exact (Below.refl _ _).drew.drew); rintro e w2 ⟨r1, rfl, q1, hb2⟩; have c2' := (hb2.cell (p := ⟨b2, o2 + j, none⟩) (block_lt_of_cell c2)).trans c2)))
        all_goals
          have hB4 : Below wr.heap.size wr w4 := bth (bth hb2 hb3) hb4
          have hsz3 : w.heap.size + 1 ≤ w3.heap.size := by have := Hrow.out.lt; have := hb2.size; have := hb3.size; omega
          go_wp2_with fail
          go_meet
          exact ⟨q3.mono hsz3, Hrow.out.keep hB4, bth HB.out hB4⟩
      case rest =>
        obtain ⟨q3, hrow4, hB4⟩ := hcut
        have Hq3 := hide q3
        have Hrow4 := hide hrow4
        have HB4 := hide hB4
        clear q3 hrow4 hB4 c2
        go_wp2
        go_loopw [7] (fun rv wr' => ∃ (c r' : Nat), RNew (w.heap.size + 1) wr' rv r' ∧ c * n + r' = r * 10 + nth xs j ∧ RowI wr' w.heap.size (zs.set j c) ∧ Below w.heap.size w wr') (fun _ wr' => 10 - (intOf ((wr'.cell? ⟨w.heap.size, j, none⟩).getD undef)).toNat)
        case atStart => exact ⟨0, _, Hq3.out, by omega, by rw [set_zero (Hzero.out j (by omega))]; exact Hrow4.out, HB4.out⟩
        case round =>
          obtain ⟨c, r', hq, hcr, hrow, hB⟩ := hrel
          have hc10 := div_count hrn hd9 hcr
          have hjz : j < zs.length := by have := Hlen.out; omega
          have lr : r' < 10 ^ (kn + 1) := by
            rw [Nat.pow_succ]
            have := Hkn.out
            have h0 : r' ≤ r * 10 + nth xs j := by rw [← hcr]; exact Nat.le_add_left _ _
            omega
          have HA := hide (hq.res.arg lr (by omega))
          have HBv := hide (HY.out.below hB)
          have Hq := hide hq
          have Hcr := hide hcr
          have Hrowi := hide hrow
          have HBi := hide hB
          have hsz5 : w.heap.size + 1 ≤ wr.heap.size := by have := hrow.lt; omega
          clear hq hcr hrow hB lr
          by_cases hnr : n ≤ r'
          · have hge : cmpI (r' : Int) (n : Int) ≥ 0 := cmpI_ge hnr
            go_wp2_with (first
              | (go_at_call 95; go_must (refine (rcmp_calls HA.out HBv.out).mono ?_; rintro e w5 ⟨rfl, hb5⟩))
              | (go_at_call 96; go_must (refine (rsub_calls (HA.out.below hb5) (HBv.out.below hb5) hnr).mono ?_; rintro e w6 ⟨r6, rfl, q6, hb6⟩; have hrow6 := (Hrowi.out.keep hb5).keep hb6; have c6 := hrow6.cell (j := j) (by rw [List.length_set]; exact hjz); rw [nth_set_same hjz] at c6; have f6 := hrow6.frozen j; have Hrow6 := hide hrow6; have Hq6 := hide q6; have Hb5 := hide hb5; have Hb6 := hide hb6; clear hrow6 q6 hb5 hb6)))
            have hrow7 := Hrow6.out.set j (c + 1)
            rw [List.set_set] at hrow7
            have e7 : Value.int .i64 ((c + 1 : Nat) : Int) = Value.int .i64 ((c : Int) + 1) := by simp
            rw [e7] at hrow7
            go_roundw
            case rel =>
              refine ⟨c + 1, r' - n, (Hq6.out.mono (by have := Hb5.out.size; omega)).setBelow (by omega) _, ?_, hrow7, (bth (bth HBi.out Hb5.out) Hb6.out).setCell (p := ⟨w.heap.size, j, none⟩) (Nat.le_refl _) _⟩
              have := Hcr.out
              rw [Nat.add_mul]
              omega
            case measure =>
              rw [hrow7.cell (by rw [List.length_set]; exact hjz), Hrowi.out.cell (by rw [List.length_set]; exact hjz), nth_set_same hjz, nth_set_same hjz]
              simp [intOf]
              omega
          · have hge : ¬ cmpI (r' : Int) (n : Int) ≥ 0 := cmpI_not_ge (by omega)
            go_wp2_with (go_at_call 95; go_must (refine (rcmp_calls HA.out HBv.out).mono ?_; rintro e w5 ⟨rfl, hb5⟩))
            go_roundw
            case rel => exact ⟨j, _, r', zs.set j c, rfl, rfl, by omega, Hq.out.keep hb5, by omega, Hrowi.out.keep hb5, by rw [List.length_set]; exact Hlen.out, small_set Hs.out j hc10, fun t ht => by rw [nth_set_lt ht]; exact Hzero.out t (by omega), by rw [val_drop_step (show j < xs.length by omega)]; exact rdiv_step hjz Hval.out Hcr.out, bth HBi.out hb5⟩
            case measure => simp [intOf]

end Go.Proofs.YtkdhcpfmlelfcaaGreatDoor
