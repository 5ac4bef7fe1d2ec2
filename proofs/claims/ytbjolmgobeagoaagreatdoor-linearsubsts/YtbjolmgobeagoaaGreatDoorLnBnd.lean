/- Bounds of sums that were answered. -/
import Derived.Test.YtbjolmgobeagoaaGreatDoorLnScale
namespace Go.Proofs.YtbjolmgobeagoaaGreatDoor
set_option linter.unusedVariables false
set_option linter.unusedSimpArgs false
set_option maxRecDepth 100000
open Go Go.RowKit Go.Shelf Go.Lib

theorem TermA.up {k k' : Nat} {w : World} {v : Value} {c : Int} {M : List Pt} (h : TermA k w v c M) (hk : k ≤ k') : TermA k' w v c M := by
  obtain ⟨cn, ca, cL, cc, pa, pl, pc, e, h1, h2, h3, h4, h5, h6, h7⟩ := h
  exact ⟨cn, ca, cL, cc, pa, pl, pc, e, h1, lt_up h2 hk, h3, h4, fun p hp => lt_up (h5 p hp) hk, h6, h7⟩
theorem bnd_times {l : Ps} {k j : Nat} {z : Int} (h : Bnd k l) (hz : z.natAbs < R ^ j) : Bnd (k + j) (times z l) := fun p hp => by
  obtain ⟨q, hq, rfl⟩ := List.mem_map.1 hp
  exact bl_mul (h q hq) hz
theorem TermR.nf {W : World} {v : Value} {c : Int} {M : List Pt} (h : TermR W v c M) : NF (ps M) := by
  obtain ⟨cn, ca, cL, cc, pa, pl, pc, e, h1, h3, h4, h5⟩ := h
  exact h5
theorem TermR.bounded {k : Nat} {W : World} {v : Value} {c : Int} {M : List Pt} {l : Ps} (h : TermR W v c M) (hc : ∀ x, cf x (ps M) = cf x l) (hb : Bnd k l) (hl : l.length ≤ 1000) (hcb : c.natAbs < R ^ k) (hk : k ≤ 400000) : TermA (k + l.length) W v c M := by
  have h1 := nf_length h.nf hc
  rw [ps_length] at h1
  exact h.arg (lt_up hcb (by omega)) (nf_bnd h.nf hc hb) (by omega) (by omega)
theorem bnd_append {k : Nat} {a b : Ps} (h : Bnd k a) (g : Bnd k b) : Bnd k (a ++ b) := fun p hp => (List.mem_append.1 hp).elim (h p) (g p)
theorem bnd_up {k k' : Nat} {a : Ps} (h : Bnd k a) (hk : k ≤ k') : Bnd k' a := fun p hp => lt_up (h p hp) hk
theorem times_length (z : Int) (l : Ps) : (times z l).length = l.length := by simp [times]
theorem one_lt_R {z : Int} (h : z.natAbs ≤ 1) : z.natAbs < R ^ 1 := by
  have : 2 ≤ R ^ 1 := by rw [Nat.pow_one, R_eq]; decide
  omega

end Go.Proofs.YtbjolmgobeagoaaGreatDoor
