/- The contract of Gcd: the greatest number that divides two, in memory of its own. -/
import Derived.Test.YtkdhcpfmlelfcaaGreatDoorRes0
namespace Go.Proofs.YtkdhcpfmlelfcaaGreatDoor
set_option linter.unusedVariables false
set_option linter.unusedSimpArgs false
open Go Go.RowKit Go.Shelf Go.Lib

theorem Arg.worth {W : World} {v : Value} {n : Nat} (h : Arg W v n) : worth v W = n := by
  obtain ⟨xs, h1, _, rfl⟩ := h
  exact worth_eq h1

theorem Arg.bound {W : World} {v : Value} {n : Nat} (h : Arg W v n) : ∃ k, k ≤ 1048576 ∧ n < R ^ k := by
  obtain ⟨xs, h1, h2, rfl⟩ := h
  exact ⟨xs.length, h2, val_lt h1.small⟩

theorem Answer.later {w w0 W : World} {v : Value} {n : Nat} (h : Answer w0 W v n) (hs : w.heap.size ≤ w0.heap.size) : Answer w W v n := by
  obtain ⟨zs, hm, hc, hv⟩ := h
  exact ⟨zs, hm.mono hs, hc, hv⟩

theorem gcd_step (a b : Nat) : Nat.gcd b (a % b) = Nat.gcd a b := by
  rw [Nat.gcd_comm b (a % b), ← Nat.gcd_rec, Nat.gcd_comm]

set_option maxRecDepth 100000 in
set_option maxHeartbeats 1000000 in
theorem gcd_calls {w : World} {sv tv : Value} {m n : Nat} (hx : Arg w sv m) (hy : Arg w tv n) :
    Calls Tryz.prog 92 #[sv, tv] w fun e w' => ∃ rv, e = .returned rv ∧ Answer w w' rv (Nat.gcd m n) ∧ Below w.heap.size w w' := by
  have Hx := hide hx
  have Hy := hide hy
  clear hx hy
  go_enter Tryz.func92, Tryz.ntmps92
  go_wp2
  go_loopw [0, 1] (fun av bv wr => ∃ (a b : Nat), Hid (Arg wr av a) ∧ Hid (Arg wr bv b) ∧ Hid (Nat.gcd a b = Nat.gcd m n) ∧ Hid (Below w.heap.size w wr)) (fun _ bv wr => worth bv wr)
  case atStart => exact ⟨m, n, Hx, Hy, rfl, Below.refl _ _⟩
  case round =>
    obtain ⟨a, b, hA, hB, hg, hW⟩ := hrel
    by_cases hz : b = 0
    · have Hz := hide hz
      clear hz
      go_wp2_with fail
      refine (isZero_yes hB.out Hz.out).mono ?_
      rintro e w1 ⟨rfl, hb1⟩
      have hA1 := hide (hA.out.below hb1)
      have Hb1 := hide hb1
      clear hb1
      go_wp2_with fail
      refine (norm_ans hA1.out).mono ?_
      rintro e w2 ⟨rv, rfl, hr, hb2⟩
      go_wp2
      go_ret
      have e1 : Nat.gcd m n = a := by rw [← hg.out, Hz.out, Nat.gcd_zero_right]
      have hW1 := bgo hW.out Hb1.out
      rw [e1]
      exact ⟨_, rfl, hr.later hW1.size, bgo hW1 hb2⟩
    · have Hz := hide hz
      clear hz
      go_wp2_with fail
      refine (isZero_no hB.out Hz.out).mono ?_
      rintro e w1 ⟨rfl, hb1⟩
      have hA1 := hide (hA.out.below hb1)
      have hB1 := hide (hB.out.below hb1)
      have hW1 := hide (bgo hW.out hb1)
      clear hb1
      go_wp2_with fail
      refine (divMod_res hA1.out hB1.out Hz.out).mono ?_
      rintro e w2 ⟨q, r, rfl, hq, hr, hb2⟩
      have hB2 := hide (hB1.out.below hb2)
      have hR2 : Hid (Arg w2 r (a % b)) := by
        obtain ⟨k, hk, hlt⟩ := hB2.out.bound
        exact hr.arg (Nat.lt_trans (Nat.mod_lt _ (Nat.pos_of_ne_zero Hz.out)) hlt) hk
      have hW2 := hide (bgo hW1.out hb2)
      clear hb2 hq hr
      go_wp2
      go_roundw
      case rel => exact ⟨b, a % b, hB2, hR2, by show _ = _; rw [gcd_step]; exact hg.out, hW2⟩
      case measure =>
        rw [hR2.out.worth, hB.out.worth]
        exact Nat.mod_lt _ (Nat.pos_of_ne_zero Hz.out)

theorem gcd_res {w : World} {sv tv : Value} {m n : Nat} (hx : Arg w sv m) (hy : Arg w tv n) :
    Calls Tryz.prog 92 #[sv, tv] w fun e w' => ∃ rv, e = .returned rv ∧ Res w' rv (Nat.gcd m n) ∧ Below w.heap.size w w' := by
  refine (gcd_calls hx hy).mono ?_
  rintro e w' ⟨rv, rfl, hA, hb⟩
  exact ⟨rv, rfl, hA.res, hb⟩

end Go.Proofs.YtkdhcpfmlelfcaaGreatDoor
