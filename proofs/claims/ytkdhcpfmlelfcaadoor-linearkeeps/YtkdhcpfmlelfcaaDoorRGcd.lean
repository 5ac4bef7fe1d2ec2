/- The reference's Gcd, Shift and Bits. -/
import Derived.Test.YtkdhcpfmlelfcaaDoorRDivMod
namespace Go.Proofs.YtkdhcpfmlelfcaaDoor
set_option linter.unusedVariables false
set_option linter.unusedSimpArgs false
open Go Go.RowKit Go.Shelf

/-- What the digits behind a value are worth. -/
def worthD (v : Value) (W : World) : Nat :=
  match v with
  | .slice (some a) n _ => val 10 ((List.range n).map fun j => match W.cell? ⟨a.block, a.off + j, none⟩ with | some (.int _ z) => z.toNat | _ => 0)
  | _ => 0

theorem worthD_eq {W : World} {v : Value} {zs : List Nat} (h : Digs W v zs) : worthD v W = val 10 zs := by
  obtain ⟨ao, cap, rfl, _, _, hc⟩ := h
  cases ao with
  | none =>
    cases zs with
    | nil => rfl
    | cons x r =>
      obtain ⟨b, off, e, _⟩ := hc 0 (by simp)
      cases e
  | some a =>
    show val 10 _ = _
    congr 1
    apply List.ext_getElem (by simp)
    intro j h1 h2
    obtain ⟨b, off, e, hcell⟩ := hc j h2
    cases e
    simp only [List.getElem_map, List.getElem_range, hcell]
    rw [nth_eq h2]
    rfl

theorem RRes.worth {W : World} {v : Value} {n : Nat} (h : RRes W v n) : worthD v W = n := by
  obtain ⟨xs, h1, _, rfl⟩ := h
  exact worthD_eq h1

/-- A number's value is a slice, without a digit just if it is 0. -/
theorem RRes.form {W : World} {v : Value} {n : Nat} (h : RRes W v n) : ∃ ao L cap, v = .slice ao L cap ∧ (L = 0 ↔ n = 0) := by
  obtain ⟨ds, hd, hc, rfl⟩ := h
  obtain ⟨ao, cap, rfl⟩ := hd.len
  refine ⟨ao, ds.length, cap, rfl, fun e => by rw [List.eq_nil_of_length_eq_zero e]; rfl, fun e => by rw [hc.val_zero ten_pos e]; rfl⟩

theorem gcd_step10 (a b : Nat) : Nat.gcd b (a % b) = Nat.gcd a b := by
  rw [Nat.gcd_comm b (a % b), ← Nat.gcd_rec, Nat.gcd_comm]

end Go.Proofs.YtkdhcpfmlelfcaaDoor
