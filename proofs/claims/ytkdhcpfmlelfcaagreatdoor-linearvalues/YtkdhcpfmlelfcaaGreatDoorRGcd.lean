/- The reference's Gcd, Shift and Bits. -/
import Derived.Test.YtkdhcpfmlelfcaaGreatDoorRDivMod
namespace Go.Proofs.YtkdhcpfmlelfcaaGreatDoor
set_option linter.unusedVariables false
set_option linter.unusedSimpArgs false
open Go Go.RowKit Go.Shelf

/-- What the digits behind a value are worth. -/
def worthD (v : Value) (W : World) : Nat :=
  match v with
  | .slice (some a) n _ => val 10 ((List.range n).map fun j => match W.cell? ⟨a.block, a.off + j, none⟩ with | some (.int _ z) => z.toNat | _ => 0)
  | _ => 0

theorem worthD_eq {W : World} {v : Value} {zs : List Nat} (h : Digs W v zs) : worthD v W = val 10 zs := by
  obtain ⟨ao, cap, rfl, _, _, hc⟩ := h
  cases ao with
  | none =>
    cases zs with
    | nil => rfl
    | cons x r =>
      obtain ⟨b, off, e, _⟩ := hc 0 (by simp)
      cases e
  | some a =>
    show val 10 _ = _
    congr 1
    apply List.ext_getElem (by simp)
    intro j h1 h2
    obtain ⟨b, off, e, hcell⟩ := hc j h2
    cases e
    simp only [List.getElem_map, List.getElem_range, hcell]
    rw [nth_eq h2]
    rfl

theorem RRes.worth {W : World} {v : Value} {n : Nat} (h : RRes W v n) : worthD v W = n := by
  obtain ⟨xs, h1, _, rfl⟩ := h
  exact worthD_eq h1

/-- A number's value is a slice, without a digit just if it is 0. -/
theorem RRes.form {W : World} {v : Value} {n : Nat} (h : RRes W v n) : ∃ ao L cap, v = .slice ao L cap ∧ (L = 0 ↔ n = 0) := by
  obtain ⟨ds, hd, hc, rfl⟩ := h
  obtain ⟨ao, cap, rfl⟩ := hd.len
  refine ⟨ao, ds.length, cap, rfl, fun e => by rw [List.eq_nil_of_length_eq_zero e]; rfl, fun e => by rw [hc.val_zero ten_pos e]; rfl⟩

theorem trim_arg {w : World} {v : Value} {n : Nat} (h : RArg w v n) :
    Calls Tryz.prog 88 #[v] w fun e w' => ∃ rv, e = .returned rv ∧ RRes w' rv n ∧ Below w.heap.size w w' := by
  obtain ⟨ds, hd, hc, rfl, hl⟩ := h
  refine (trim_res w v ds hd (by omega)).mono ?_
  rintro e w' ⟨rv, rfl, h1, h2⟩
  exact ⟨rv, rfl, h1.res, h2⟩

theorem gcd_step10 (a b : Nat) : Nat.gcd b (a % b) = Nat.gcd a b := by
  rw [Nat.gcd_comm b (a % b), ← Nat.gcd_rec, Nat.gcd_comm]

set_option maxRecDepth 100000 in
set_option maxHeartbeats 1000000 in
theorem rgcd_calls {w : World} {av bv : Value} {m n K : Nat} (hx : RArg w av m) (hy : RArg w bv n) (hm : m < 10 ^ K) (hn : n < 10 ^ K) (hK : K ≤ 1000) :
    Calls Tryz.prog 93 #[av, bv] w fun e w' => ∃ rv, e = .returned rv ∧ RRes w' rv (Nat.gcd m n) ∧ Below w.heap.size w w' := by
  have Hx := hide hx
  have Hy := hide hy
  have Hm := hide hm
  have Hn := hide hn
  clear hx hy hm hn
  go_enter Tryz.func93, Tryz.ntmps93
  go_wp2_with fail
  refine (trim_arg Hx.out).mono ?_
  rintro e w1 ⟨x, rfl, qx, hb1⟩
  have Hy1 := hide (Hy.out.below hb1)
  go_wp2_with fail
  refine (trim_arg Hy1.out).mono ?_
  rintro e w2 ⟨y, rfl, qy, hb2⟩
  have Qx := hide (qx.below hb2)
  have Qy := hide qy
  have HB := hide (bth hb1 hb2)
  clear hb1 hb2 qx qy Hx Hy Hy1
  go_wp2
  go_loopw [5, 6] (fun xv yv wr => ∃ (a b : Nat), Hid (RRes wr xv a) ∧ Hid (RRes wr yv b) ∧ Hid (a < 10 ^ K) ∧ Hid (b < 10 ^ K) ∧ Hid (Nat.gcd a b = Nat.gcd m n) ∧ Hid (Below w.heap.size w wr)) (fun _ yv wr => worthD yv wr)
  case atStart => exact ⟨m, n, Qx, Qy, Hm, Hn, rfl, HB⟩
  case round =>
    obtain ⟨a, b, hA, hB, ha, hb, hg, hW⟩ := hrel
    obtain ⟨yo, L, yc, hy, hL⟩ := hB.out.form
    subst hy
    by_cases hz : b = 0
    · obtain rfl : L = 0 := hL.2 hz
      have Hz := hide hz
      clear hz hL
      go_wp2
      go_ret
      have e1 : Nat.gcd m n = a := by rw [← hg.out, Hz.out, Nat.gcd_zero_right]
      rw [e1]
      exact ⟨_, rfl, hA.out, hW.out⟩
    · have hL0 : (L : Int) > 0 := by
        have : L ≠ 0 := fun e => hz (hL.1 e)
        omega
      have Hz := hide hz
      clear hz hL
      go_wp2_with fail
      refine (rdivmod_calls (hA.out.arg ha.out (by omega)) (hB.out.arg hb.out (by omega)) Hz.out hb.out hK).mono ?_
      rintro e w3 ⟨q, r, rfl, hq, hr, hb3⟩
      have hB3 := hide (hB.out.below hb3)
      have hr3 := hide hr.res
      have hW3 := hide (bth hW.out hb3)
      clear hb3 hq hr
      go_wp2
      go_roundw
      case rel => exact ⟨b, a % b, hB3, hr3, hb, Nat.lt_trans (Nat.mod_lt _ (Nat.pos_of_ne_zero Hz.out)) hb.out, by show _ = _; rw [gcd_step10]; exact hg.out, hW3⟩
      case measure =>
        rw [hr3.out.worth, hB.out.worth]
        exact Nat.mod_lt _ (Nat.pos_of_ne_zero Hz.out)

end Go.Proofs.YtkdhcpfmlelfcaaGreatDoor
