/- The reference's Mul: the product, digit by digit. -/
import Derived.Test.YtkdhcpfmlelfcaaGreatDoorRBase
import Derived.Deep.RegionWith
import Derived.Deep.DeepMust
namespace Go.Proofs.YtkdhcpfmlelfcaaGreatDoor
set_option linter.unusedVariables false
set_option linter.unusedSimpArgs false
open Go Go.RowKit Go.Shelf

set_option maxRecDepth 100000 in
set_option maxHeartbeats 2000000 in
theorem rmul_calls (w : World) (av bv : Value) (xs ys : List Nat) (hx0 : Digs w av xs) (hy0 : Digs w bv ys) (cx : Canon 10 xs) (lx : xs.length ≤ 1000) (ly : ys.length ≤ 1000) :
    Calls Tryz.prog 98 #[av, bv] w fun e w' => ∃ rv, e = .returned rv ∧ RRes w' rv (val 10 xs * val 10 ys) ∧ Below w.heap.size w w' := by
  obtain ⟨ao, ca, rfl⟩ := hx0.len
  obtain ⟨bo, cb, rfl⟩ := hy0.len
  go_enter Tryz.func98, Tryz.ntmps98
  go_wp2
  go_loopw [5, 6] (fun out iv wr => ∃ (k : Nat) (i : Int), iv = .int .i64 i ∧ i = (k : Int) - 1 ∧ k ≤ ys.length ∧ RRes wr out (val 10 xs * val 10 (ys.drop k)) ∧ Below w.heap.size w wr) (fun _ iv _ => (intOf iv + 1).toNat)
  case atStart => exact ⟨ys.length, _, rfl, rfl, Nat.le_refl _, by simpa [val_nil] using RRes.nil w, Below.refl _ _⟩
  case round =>
    obtain ⟨k, i, rfl, hi, hk, hout, hB⟩ := hrel
    have HB := hide hB
    have Hout := hide hout
    clear hB hout
    rcases Nat.eq_zero_or_pos k with rfl | hkp
    · obtain rfl : i = -1 := by omega
      have hno : ¬ ((-1 : Int) ≥ 0) := by omega
      have HX := hide hx0
      have HY := hide hy0
      clear hx0 hy0 hi
      go_wp2
      go_ret
      exact ⟨_, rfl, by simpa using Hout.out, HB.out⟩
    · obtain ⟨j, rfl⟩ : ∃ j, k = j + 1 := ⟨k - 1, by omega⟩
      obtain rfl : i = (j : Int) := by omega
      obtain ⟨b2, o2, eb⟩ := hy0.addr (j := j) (by omega)
      subst eb
      have c2 : wr.cell? ⟨b2, o2 + j, none⟩ = some (.int .i64 ((nth ys j : Nat) : Int)) := (hy0.below HB.out).cellAt rfl (by omega)
      have hd9 : nth ys j < 10 := hy0.small.nth (by decide) j
      have dj : (j : Int) < (ys.length : Int) := by omega
      have dge : (j : Int) ≥ 0 := by omega
      have hbd := mul_bound hx0.small hy0.small (j + 1)
      have hxb : val 10 xs < 10 ^ xs.length := val_lt hx0.small
      have A1 : RArg wr u5 (val 10 xs * val 10 (ys.drop (j + 1))) := Hout.out.arg hbd (by omega)
      have A2 : RArg wr (.slice ao xs.length ca) (val 10 xs) := ⟨xs, hx0.below HB.out, cx, rfl, by omega⟩
      have hres : val 10 xs * val 10 (ys.drop (j + 1)) * 10 + val 10 xs * nth ys j = val 10 xs * val 10 (ys.drop j) := by
        rw [val_drop_step (show j < ys.length by omega), Nat.mul_add, Nat.mul_left_comm, Nat.mul_comm 10, Nat.add_comm]
      have l1 := lt_more hbd 10 (Nat.le_refl _)
      have l2 := lt_more hxb (nth ys j) (by omega)
      have HA1 := hide A1
      have HA2 := hide A2
      have HX := hide hx0
      have HY := hide hy0
      have Hres := hide hres
      have Hl1 := hide l1
      have Hl2 := hide l2
      clear A1 A2 hx0 hy0 hres l1 l2 hbd hxb hi
      go_upto_region 5 with fail
      go_region_with (first
        | (go_at_call 94; go_must (refine (add_from (W := w2) ?_ (q1'.arg Hl1.out (by omega)) (q2.arg Hl2.out (by omega))).mono ?_; (first | exact Below.refl _ _ | exact (Below.refl _ _).drew | exact (Below.refl _ _).drew.drew); rintro e w3 ⟨r3, rfl, q3, hb3⟩))
        | (go_at_call 118; (refine (times_from (W := w1) (n := nth ys j) ?_ A2' (by omega)).mono ?_; (first | exact Below.refl _ _ | exact (Below.refl _ _).drew | exact (Below.refl _ _).drew.drew); rintro e w2 ⟨r2, rfl, q2, hb2⟩; have q1' := q1.below hb2))
        | (go_at_call 118; go_must (refine (times_from (W := wr) (n := 10) ?_ HA1.out (by decide)).mono ?_; (first | exact Below.refl _ _ | exact (Below.refl _ _).drew | exact (Below.refl _ _).drew.drew); rintro e w1 ⟨r1, rfl, q1, hb1⟩; have c2' := (hb1.cell (p := ⟨b2, o2 + j, none⟩) (block_lt_of_cell c2)).trans c2; have A2' := HA2.out.below hb1)))
      all_goals
        go_wp2
        go_roundw
        case rel => exact ⟨j, _, rfl, rfl, by omega, by rw [← Hres.out]; exact q3, bth (bth (bth HB.out hb1) hb2) hb3⟩
        case measure => simp [intOf]

theorem mul_rres {w : World} {av bv : Value} {m n j k : Nat} (hx : RRes w av m) (hy : RRes w bv n) (hm : m < 10 ^ j) (hn : n < 10 ^ k) (hj : j ≤ 1000) (hk : k ≤ 1000) :
    Calls Tryz.prog 98 #[av, bv] w fun e w' => ∃ rv, e = .returned rv ∧ RRes w' rv (m * n) ∧ Below w.heap.size w w' := by
  obtain ⟨xs, h1, h2, rfl⟩ := hx
  obtain ⟨ys, k1, k2, rfl⟩ := hy
  exact rmul_calls w av bv xs ys h1 k1 h2 (Nat.le_trans (canon_len_of ten_pos h2 hm) hj) (Nat.le_trans (canon_len_of ten_pos k2 hn) hk)

end Go.Proofs.YtkdhcpfmlelfcaaGreatDoor
