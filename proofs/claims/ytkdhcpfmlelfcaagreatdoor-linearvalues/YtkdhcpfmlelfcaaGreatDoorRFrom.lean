/- The reference's From: the digits of a number's limbs. -/
import Derived.Test.YtkdhcpfmlelfcaaGreatDoorRMul
namespace Go.Proofs.YtkdhcpfmlelfcaaGreatDoor
set_option linter.unusedVariables false
set_option linter.unusedSimpArgs false
open Go Go.RowKit Go.Shelf

theorem mul_from {W W' : World} {av bv : Value} {m n j k : Nat} (hb : Below W.heap.size W W') (hx : RRes W av m) (hy : RRes W bv n) (hm : m < 10 ^ j) (hn : n < 10 ^ k) (hj : j ≤ 1000) (hk : k ≤ 1000) :
    Calls Tryz.prog 98 #[av, bv] W' fun e w' => ∃ rv, e = .returned rv ∧ RRes w' rv (m * n) ∧ Below W.heap.size W w' := by
  refine (mul_rres (hx.below hb) (hy.below hb) hm hn hj hk).mono ?_
  rintro e w' ⟨rv, rfl, h1, h2⟩
  exact ⟨rv, rfl, h1, hb.trans (h2.mono hb.size)⟩

set_option maxRecDepth 100000 in
set_option maxHeartbeats 1000000 in
theorem rfrom_calls (w : World) (lv : Value) (zs : List Nat) (hz0 : Limbs w lv zs) (lz : zs.length ≤ 50) :
    Calls Tryz.prog 99 #[lv] w fun e w' => ∃ rv, e = .returned rv ∧ RRes w' rv (val R zs) ∧ Below w.heap.size w w' := by
  obtain ⟨ao, ca, rfl⟩ := hz0.len
  go_enter Tryz.func99, Tryz.ntmps99
  go_wp2_with (go_at_call 89; go_must (refine (small_from (W := w) (n := 4294967296) (Below.refl _ _) (by decide)).mono ?_; rintro e w0 ⟨limb, rfl, qL, hb0⟩))
  go_loopw [3, 5] (fun out iv wr => ∃ (k : Nat) (i : Int), iv = .int .i64 i ∧ i = (k : Int) - 1 ∧ k ≤ zs.length ∧ RRes wr out (val R (zs.drop k)) ∧ RRes wr limb R ∧ Below w.heap.size w wr) (fun _ iv _ => (intOf iv + 1).toNat)
  case atStart => exact ⟨zs.length, _, rfl, rfl, Nat.le_refl _, by simpa [val_nil] using RRes.nil w0, qL, hb0⟩
  case round =>
    obtain ⟨k, i, rfl, hi, hk, hout, hlimb, hB⟩ := hrel
    have HB := hide hB
    have Hout := hide hout
    have Hlimb := hide hlimb
    clear hB hout hlimb
    rcases Nat.eq_zero_or_pos k with rfl | hkp
    · obtain rfl : i = -1 := by omega
      have hno : ¬ ((-1 : Int) ≥ 0) := by omega
      have HZ := hide hz0
      clear hz0 hi
      go_wp2
      go_ret
      exact ⟨_, rfl, by simpa using Hout.out, HB.out⟩
    · obtain ⟨j, rfl⟩ : ∃ j, k = j + 1 := ⟨k - 1, by omega⟩
      obtain rfl : i = (j : Int) := by omega
      obtain ⟨b2, o2, eb⟩ := hz0.addr (j := j) (by omega)
      subst eb
      have c2 : wr.cell? ⟨b2, o2 + j, none⟩ = some (.int .u32 ((nth zs j : Nat) : Int)) := (hz0.below HB.out).cellAt rfl (by omega)
      have hd9 : nth zs j < R := hz0.small.nth R_pos j
      rw [R_eq] at hd9
      have hwrap := wrap64_nat (n := nth zs j) (by omega)
      have dj : (j : Int) < (zs.length : Int) := by omega
      have dge : (j : Int) ≥ 0 := by omega
      have hbd := valR_drop_lt hz0.small (j + 1)
      have hres : val R (zs.drop (j + 1)) * R + nth zs j = val R (zs.drop j) := by
        rw [val_drop_stepR (show j < zs.length by omega), Nat.mul_comm R, Nat.add_comm]
      have l1 : val R (zs.drop (j + 1)) * R < 10 ^ (10 * zs.length + 10) := by
        rw [Nat.pow_add]
        exact Nat.mul_lt_mul'' hbd R_lt
      have l2 : nth zs j < 10 ^ 10 := Nat.lt_trans hd9 R_lt
      have Hbd := hide hbd
      have HZ := hide hz0
      have Hres := hide hres
      have Hl1 := hide l1
      have Hl2 := hide l2
      clear hz0 hres l1 l2 hbd hi
      go_upto_region 6 with fail
      go_region_with (first
        | (go_at_call 94; go_must (refine (add_from (W := w2) ?_ (q1'.arg Hl1.out (by omega)) (q2.arg Hl2.out (by omega))).mono ?_; (first | exact Below.refl _ _ | exact (Below.refl _ _).drew | exact (Below.refl _ _).drew.drew); rintro e w3 ⟨r3, rfl, q3, hb3⟩))
        | (go_at_call 89; go_must (refine (small_from (W := w1) (n := nth zs j) ?_ (by omega)).mono ?_; (first | exact Below.refl _ _ | exact (Below.refl _ _).drew | exact (Below.refl _ _).drew.drew); rintro e w2 ⟨r2, rfl, q2, hb2⟩; have q1' := q1.below hb2))
        | (go_at_call 98; go_must (refine (mul_from (W := wr) ?_ Hout.out Hlimb.out Hbd.out R_lt (by omega) (by decide)).mono ?_; (first | exact Below.refl _ _ | exact (Below.refl _ _).drew | exact (Below.refl _ _).drew.drew); rintro e w1 ⟨r1, rfl, q1, hb1⟩; have c2' := (hb1.cell (p := ⟨b2, o2 + j, none⟩) (block_lt_of_cell c2)).trans c2)))
      all_goals
        go_wp2
        go_roundw
        case rel => exact ⟨j, _, rfl, rfl, by omega, by rw [← Hres.out]; exact q3, ((Hlimb.out.below hb1).below hb2).below hb3, bth (bth (bth HB.out hb1) hb2) hb3⟩
        case measure => simp [intOf]

end Go.Proofs.YtkdhcpfmlelfcaaGreatDoor
