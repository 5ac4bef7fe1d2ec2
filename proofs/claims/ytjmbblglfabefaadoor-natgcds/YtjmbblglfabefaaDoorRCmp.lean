/- The reference's Cmp: which of two numbers is the greater. -/
import Derived.Test.YtjmbblglfabefaaDoorRFrom
import Derived.Test.YtjmbblglfabefaaDoorCmp
namespace Go.Proofs.YtjmbblglfabefaaDoor
set_option linter.unusedVariables false
set_option linter.unusedSimpArgs false
open Go Go.RowKit Go.Shelf

theorem trim_same {w : World} {v : Value} {ds : List Nat} (h : Digs w v ds) (hc : Canon 10 ds) (hl : ds.length ≤ 1048576) :
    Calls Tryd.prog 28 #[v] w fun e w' => ∃ rv, e = .returned rv ∧ Digs w' rv ds ∧ Below w.heap.size w w' := by
  refine (rtrim_calls w v ds h hl).mono ?_
  rintro e w' ⟨rv, rfl, ho, hb⟩
  have e1 : trm ds = ds := by unfold trm; rw [hc.2]; simp
  rw [e1] at ho
  exact ⟨rv, rfl, ho.digs hc.1, hb⟩

theorem cmp_len10 {us vs : List Nat} (hu : Canon 10 us) (hv : Canon 10 vs) (h : us.length ≠ vs.length) : cmpI (us.length : Int) (vs.length : Int) = cmpI (val 10 us : Int) (val 10 vs : Int) := by
  rcases Nat.lt_or_gt_of_ne h with h | h
  · have := canon_len_lt ten_pos hu.1 hv h
    rw [cmpI_lt (by omega), cmpI_lt (by omega)]
  · have := canon_len_lt ten_pos hv.1 hu h
    rw [cmpI_gt (by omega), cmpI_gt (by omega)]

theorem cmp_top10 {us vs : List Nat} (hu : Small 10 us) (hv : Small 10 vs) (hl : us.length = vs.length) {i : Nat} (hi : i < us.length) (hd : us.drop (i + 1) = vs.drop (i + 1)) (h : nth us i ≠ nth vs i) : cmpI (nth us i : Int) (nth vs i : Int) = cmpI (val 10 us : Int) (val 10 vs : Int) := by
  have h2 : i < vs.length := by omega
  rcases Nat.lt_or_gt_of_ne h with h | h
  · have := lt_of_top hu i hi h2 hd (by rw [nth_eq hi, nth_eq h2] at h; exact h)
    rw [cmpI_lt (by omega), cmpI_lt (by omega)]
  · have := lt_of_top hv i h2 hi hd.symm (by rw [nth_eq hi, nth_eq h2] at h; exact h)
    rw [cmpI_gt (by omega), cmpI_gt (by omega)]

theorem drop_eq_step {us vs : List Nat} {j : Nat} (h1 : j < us.length) (h2 : j < vs.length) (h : us.drop (j + 1) = vs.drop (j + 1)) (he : nth us j = nth vs j) : us.drop j = vs.drop j := by
  rw [nth_eq h1, nth_eq h2] at he
  rw [List.drop_eq_getElem_cons h1, List.drop_eq_getElem_cons h2, he, h]

set_option maxRecDepth 100000 in
set_option maxHeartbeats 2000000 in
theorem rcmp_calls {w : World} {av bv : Value} {m n : Nat} (hx : RArg w av m) (hy : RArg w bv n) :
    Calls Tryd.prog 47 #[av, bv] w fun e w' => e = .returned (.int .i64 (cmpI m n)) ∧ Below w.heap.size w w' := by
  obtain ⟨xs, hx0, cx, rfl, lx⟩ := hx
  obtain ⟨ys, hy0, cy, rfl, ly⟩ := hy
  obtain ⟨ao, ca, rfl⟩ := hx0.len
  obtain ⟨bo, cb, rfl⟩ := hy0.len
  go_enter Tryd.func47, Tryd.ntmps47
  go_wp2_with fail
  refine (trim_same hx0 cx (by omega)).mono ?_
  rintro e w1 ⟨r1, rfl, q1, hb1⟩
  go_wp2_with fail
  refine (trim_same (hy0.below hb1) cy (by omega)).mono ?_
  rintro e w2 ⟨r2, rfl, q2, hb2⟩
  replace q1 := q1.below hb2
  have hB2 := bth hb1 hb2
  obtain ⟨ao1, ca1, rfl⟩ := q1.len
  obtain ⟨bo1, cb1, rfl⟩ := q2.len
  have Hx0 := hide hx0
  have Hy0 := hide hy0
  clear hx0 hy0 hb1 hb2
  by_cases hl : xs.length = ys.length
  · have hl' : ((xs.length : Int) != (ys.length : Int)) = false := by simp [hl]
    have Hl := hide hl
    clear hl
    go_wp2
    go_loopw [7] (fun iv wr => ∃ (k : Nat) (i : Int), iv = .int .i64 i ∧ i = (k : Int) - 1 ∧ k ≤ xs.length ∧ xs.drop k = ys.drop k ∧ Below w2.heap.size w2 wr) (fun iv _ => (intOf iv + 1).toNat)
    case atStart => exact ⟨xs.length, _, rfl, rfl, Nat.le_refl _, by rw [List.drop_of_length_le (Nat.le_refl _), List.drop_of_length_le (by rw [Hl.out]; exact Nat.le_refl _)], Below.refl _ _⟩
    case round =>
      obtain ⟨k, i, rfl, hi, hk, hdr, hB⟩ := hrel
      have HB := hide hB
      have Hdr := hide hdr
      clear hB hdr
      rcases Nat.eq_zero_or_pos k with rfl | hkp
      · obtain rfl : i = -1 := by omega
        have hno : ¬ ((-1 : Int) ≥ 0) := by omega
        have Q1 := hide q1
        have Q2 := hide q2
        clear q1 q2 hi
        go_wp2
        go_ret
        have e1 : xs = ys := by have := Hdr.out; simpa using this
        refine ⟨?_, bth hB2 HB.out⟩
        rw [e1, cmpI_eq]
        rfl
      · obtain ⟨j, rfl⟩ : ∃ j, k = j + 1 := ⟨k - 1, by omega⟩
        obtain rfl : i = (j : Int) := by omega
        have hjy : j < ys.length := by have := Hl.out; omega
        obtain ⟨b1, o1, ea⟩ := q1.addr (j := j) (by omega)
        obtain ⟨b2, o2, eb⟩ := q2.addr (j := j) hjy
        subst ea
        subst eb
        have c1 : wr.cell? ⟨b1, o1 + j, none⟩ = some (.int .i64 ((nth xs j : Nat) : Int)) := (q1.below HB.out).cellAt rfl (by omega)
        have c2 : wr.cell? ⟨b2, o2 + j, none⟩ = some (.int .i64 ((nth ys j : Nat) : Int)) := (q2.below HB.out).cellAt rfl hjy
        have dge : (j : Int) ≥ 0 := by omega
        have dj : (j : Int) < (xs.length : Int) := by omega
        have dj2 : (j : Int) < (ys.length : Int) := by omega
        have Q1 := hide q1
        have Q2 := hide q2
        clear q1 q2 hi
        by_cases hlt : nth xs j < nth ys j
        · have dlt : ((nth xs j : Nat) : Int) < ((nth ys j : Nat) : Int) := by omega
          go_wp2
          go_quiet (fail)
          go_wp2
          go_ret
          refine ⟨?_, below_drewN (bth hB2 HB.out) _⟩
          rw [← cmp_top10 cx.1 cy.1 Hl.out (by omega) Hdr.out (by omega), cmpI_lt (by omega)]
          rfl
        · have dlt : ¬ ((nth xs j : Nat) : Int) < ((nth ys j : Nat) : Int) := by omega
          by_cases hgt : nth xs j > nth ys j
          · have dgt : ((nth xs j : Nat) : Int) > ((nth ys j : Nat) : Int) := by omega
            go_wp2
            go_quiet (fail)
            go_wp2
            go_quiet (fail)
            go_wp2
            go_ret
            refine ⟨?_, below_drewN (below_drewN (bth hB2 HB.out) _) _⟩
            rw [← cmp_top10 cx.1 cy.1 Hl.out (by omega) Hdr.out (by omega), cmpI_gt (by omega)]
            rfl
          · have dgt : ¬ ((nth xs j : Nat) : Int) > ((nth ys j : Nat) : Int) := by omega
            go_wp2
            go_quiet (fail)
            go_wp2
            go_quiet (fail)
            go_wp2
            go_roundw
            case rel => exact ⟨j, _, rfl, rfl, by omega, drop_eq_step (by omega) hjy Hdr.out (by omega), below_drewN HB.out _⟩
            case measure => simp [intOf]
  · have hl' : ((xs.length : Int) != (ys.length : Int)) = true := by simp; omega
    have hcl := cmp_len10 cx cy hl
    by_cases hlt : xs.length < ys.length
    · have dlt : (xs.length : Int) < (ys.length : Int) := by omega
      rw [cmpI_lt dlt] at hcl
      have Hcl := hide hcl
      have Hl := hide hl
      clear hcl hl q1 q2
      go_wp2
      go_ret
      exact ⟨by rw [← Hcl.out]; rfl, hB2⟩
    · have dlt : ¬ (xs.length : Int) < (ys.length : Int) := by omega
      rw [cmpI_gt (by omega)] at hcl
      have Hcl := hide hcl
      have Hl := hide hl
      clear hcl hl q1 q2
      go_wp2
      go_ret
      exact ⟨by rw [← Hcl.out]; rfl, hB2⟩

end Go.Proofs.YtjmbblglfabefaaDoor
