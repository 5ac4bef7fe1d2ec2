/- The contract of guess: the quotient's limb, or one more. -/
import Derived.Test.YtjmbblglfabefaaDoorKnuth
import Derived.Test.YtjmbblglfabefaaDoorTake
import Derived.Test.YtjmbblglfabefaaDoorDivby
import Derived.Deep.QuietTactic
import Derived.BigQuiet
namespace Go.Proofs.YtjmbblglfabefaaDoor
set_option linter.unusedVariables false
set_option linter.unusedSimpArgs false
open Go Go.RowKit Go.Shelf

set_option maxRecDepth 100000 in
set_option maxHeartbeats 4000000 in
theorem guess_calls (w : World) (g h off cap dcap n : Nat) (pre ps post ds dt : List Nat) (hrow : Row w g (pre ++ (ps ++ post))) (hpre : pre.length = off) (hdl : ds.length = n + 2) (hpl : ps.length = n + 3) (hps : Small R ps) (hds : Small R ds) (hdr : Row w h (ds ++ dt))
    (hcap : n + 3 ≤ cap) (hcap2 : cap ≤ 70368744177664) (hb : n ≤ 1048576) (hoff : off ≤ 70368744177664) (hv : 2147483648 ≤ nth ds (n + 1)) (hlt : val R (ps.drop 1) < val R ds) :
    Calls Tryd.prog 54 #[.slice (some ⟨g, off, none⟩) (n + 3) cap, .slice (some ⟨h, 0, none⟩) (n + 2) dcap] w fun e w' => ∃ L : Nat, e = .returned (.int .u32 (L : Int)) ∧ L < 4294967296 ∧ val R ps / val R ds ≤ L ∧ L ≤ val R ps / val R ds + 1 ∧ Below w.heap.size w w' := by
  have hc := cut2_of hds hps R_pos hdl hpl (by omega)
  have htop := top_le hds R_pos hdl hpl hlt
  have hinit := hc.init
  have hdec := fun L r => hc.dec (L := L) (r := r)
  have hexit := fun L r => hc.exit (L := L) (r := r)
  have hql : val R ps / val R ds < 4294967296 := quo_lt hps (by omega) hlt
  have hu0 := hps.nth R_pos n
  have hu1 := hps.nth R_pos (n + 1)
  have hu2 := hps.nth R_pos (n + 2)
  have hv0 := hds.nth R_pos n
  have hv1 := hds.nth R_pos (n + 1)
  have cell : ∀ j, j < n + 3 → w.cell? ⟨g, off + j, none⟩ = some (.int .u32 ((nth ps j : Nat) : Int)) := fun j hj => by
    rw [hrow.cell (by simp; omega), ← hpre, nth_mid pre ps post (by omega)]
  have dell : ∀ j, j < n + 2 → w.cell? ⟨h, j, none⟩ = some (.int .u32 ((nth ds j : Nat) : Int)) := fun j hj => by
    rw [hdr.cell (by simp; omega)]
    unfold nth
    rw [List.getElem?_append_left (by omega)]
  have p0 := cell n (by omega)
  have p1 := cell (n + 1) (by omega)
  have p2 := cell (n + 2) (by omega)
  have d0 := dell n (by omega)
  have d1 := dell (n + 1) (by omega)
  rw [R_eq] at hu0 hu1 hu2 hv0 hv1
  generalize nth ps n = u0 at *
  generalize nth ps (n + 1) = u1 at *
  generalize nth ps (n + 2) = u2 at *
  generalize nth ds n = v0 at *
  generalize nth ds (n + 1) = v1 at *
  generalize hq : val R ps / val R ds = qt at *
  have Hinit := hide hinit
  have Hdec := hide hdec
  have Hexit := hide hexit
  clear hc hinit hdec hexit cell dell hrow hdr hpre hdl hpl hps hds hlt hq
  have hj := or_join u2 u1 hu2 hu1
  obtain ⟨hi, hhi⟩ : ∃ hi, u2 * 4294967296 + u1 = hi := ⟨_, rfl⟩
  have hhl : hi < 18446744073709551616 := by omega
  have hhi2 : (u2 : Int) * 4294967296 + (u1 : Int) = (hi : Int) := by omega
  rw [hhi2] at hj
  have hquo : ((hi : Int)).tdiv (v1 : Int) = ((hi / v1 : Nat) : Int) := rfl
  have hrem : ((hi : Int)).tmod (v1 : Int) = ((hi % v1 : Nat) : Int) := rfl
  have hdm := Nat.div_add_mod hi v1
  have hrl := Nat.mod_lt hi (show 0 < v1 from by omega)
  have hll := Nat.div_le_self hi v1
  have hl33 : hi / v1 < 8589934592 := by
    rw [Nat.div_lt_iff_lt_mul (by omega)]
    have := Nat.mul_le_mul_left 8589934592 hv
    omega
  have hhe : u1 + R * u2 = hi := by rw [R_eq]; omega
  rw [hhe] at Hinit Hdec Hexit
  have Hinit' : Hid (qt ≤ hi / v1) := Hinit
  generalize hi / v1 = L0 at *
  generalize hi % v1 = r0 at *
  have hv1n : v1 ≠ 0 := by omega
  have hw64 : IntKind.u64.wrap (L0 : Int) = (L0 : Int) := wrap64_of (by omega)
  have Hdm : Hid (L0 * v1 + r0 = hi) := by show _ = _; rw [Nat.mul_comm]; exact hdm
  have Hhi := hide hhi
  clear hdm hhe hhi hhi2 Hinit
  go_enter Tryd.func54, Tryd.ntmps54
  go_wp2
  go_quiet (fail)
  go_wp2
  go_quiet (fail)
  go_wp2
  go_quiet (fail)
  go_wp2
  go_loopw [9, 10] (fun l r wr => ∃ (L rr : Nat), l = .int .u64 (L : Int) ∧ r = .int .u64 (rr : Int) ∧ L < 8589934592 ∧ rr < 8589934592 ∧ qt ≤ L ∧ Hid (L * v1 + rr = hi) ∧ Below w.heap.size w wr) (fun _ r _ => (8589934592 - intOf r).toNat)
  case atStart => exact ⟨L0, r0, rfl, rfl, hl33, by omega, Hinit'.out, Hdm, below_drewN (below_drewN (below_drewN (Below.refl _ _) _) _) _⟩
  case round =>
    obtain ⟨L, rr, rfl, rfl, hL, hr, hqL, Hlr, hB⟩ := hrel
    have hgl := block_lt_of_cell p0
    have p0' := (hB.cell (p := ⟨g, off + n, none⟩) hgl).trans p0
    by_cases hr1 : rr ≤ 4294967295
    · have hg1 : decide ((rr : Int) ≤ 4294967295) = true := decide_eq_true (by omega)
      by_cases hL1 : L ≤ 4294967295
      · have hg2 : decide ((4294967295 : Int) < (L : Int)) = false := decide_eq_false (by omega)
        have hjn := or_join rr u0 (by omega) hu0
        have hm := mul_le' (x := L) (y := v0) (by rw [R_eq]; omega) (by rw [R_eq]; exact hv0)
        have hmi : (L : Int) * (v0 : Int) ≤ 18446744065119617025 := by rw [← Int.natCast_mul]; omega
        have hmp : 0 ≤ (L : Int) * (v0 : Int) := by rw [← Int.natCast_mul]; omega
        by_cases hc : rr * 4294967296 + u0 < L * v0
        · have hci : (rr : Int) * 4294967296 + (u0 : Int) < (L : Int) * (v0 : Int) := by rw [← Int.natCast_mul]; omega
          have hg3 : decide ((rr : Int) * 4294967296 + (u0 : Int) < (L : Int) * (v0 : Int)) = true := decide_eq_true hci
          have hd := Hdec.out L rr Hlr.out (by rw [R_eq]; exact hc)
          have Hn : Hid ((L - 1) * v1 + (rr + v1) = hi) := by
            show _ = _
            have := Hlr.out
            obtain ⟨L', rfl⟩ : ∃ L', L = L' + 1 := ⟨L - 1, by omega⟩
            rw [Nat.add_mul] at this
            rw [Nat.add_sub_cancel]
            omega
          clear hc hm
          go_wp2
          go_roundw
          case rel => exact ⟨L - 1, rr + v1, by go_num, by go_num, by omega, by omega, by omega, Hn, hB⟩
          case measure => simp [intOf]; omega
        · have hci : (L : Int) * (v0 : Int) ≤ (rr : Int) * 4294967296 + (u0 : Int) := by rw [← Int.natCast_mul]; omega
          have hg3 : decide ((rr : Int) * 4294967296 + (u0 : Int) < (L : Int) * (v0 : Int)) = false := decide_eq_false (by omega)
          have hd := Hexit.out L rr Hlr.out (by rw [R_eq]; omega) (by rw [R_eq]; omega)
          clear hc hm
          go_wp2
          go_ret
          exact ⟨L, rfl, by omega, hqL, hd, hB⟩
      · have hL2 : 4294967295 < L := by omega
        have hg2 : decide ((4294967295 : Int) < (L : Int)) = true := decide_eq_true (by omega)
        have Hn : Hid ((L - 1) * v1 + (rr + v1) = hi) := by
          show _ = _
          have := Hlr.out
          obtain ⟨L', rfl⟩ : ∃ L', L = L' + 1 := ⟨L - 1, by omega⟩
          rw [Nat.add_mul] at this
          rw [Nat.add_sub_cancel]
          omega
        clear hL1
        go_wp2
        go_roundw
        case rel => exact ⟨L - 1, rr + v1, by go_num, by go_num, by omega, by omega, by omega, Hn, hB⟩
        case measure => simp [intOf]; omega
    · have hr2 : 4294967295 < rr := by omega
      have hg1 : decide ((rr : Int) ≤ 4294967295) = false := decide_eq_false (by omega)
      have hLR : L < 4294967296 := by
        rcases Nat.lt_or_ge L 4294967296 with h1 | h1
        · exact h1
        · exfalso
          have h2 := Nat.mul_le_mul_right v1 h1
          have h3 := Hlr.out
          have h4 := Hhi.out
          omega
      have hd := Hexit.out L rr Hlr.out (by
        rw [R_eq]
        have := mul_le' (x := L) (y := v0) (by rw [R_eq]; omega) (by rw [R_eq]; exact hv0)
        omega) (by rw [R_eq]; omega)
      clear hr1
      go_wp2
      go_ret
      exact ⟨L, rfl, hLR, hqL, hd, hB⟩

end Go.Proofs.YtjmbblglfabefaaDoor
