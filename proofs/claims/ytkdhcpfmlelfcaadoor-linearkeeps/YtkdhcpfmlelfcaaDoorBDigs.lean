/- The reference's numbers: slices of decimal digits, the lowest first; what append leaves of them. The reference's Trim: digits without noughts at their end, in memory of their own. The reference's Small: the digits of a small number. -/
import Derived.Test.YtkdhcpfmlelfcaaDoorText2

/- The reference's numbers: slices of decimal digits, the lowest first; what append leaves of them. -/
namespace Go.Proofs.YtkdhcpfmlelfcaaDoor
set_option linter.unusedVariables false
set_option linter.unusedSimpArgs false
open Go Go.RowKit Go.Shelf

theorem ten_pos : 0 < 10 := by decide

theorem infoI64 : (Tryd.prog.info? 3).map (fun i => (i.zero, i.size, i.bytes)) = some (some (.int .i64 0), 1, 8) := by kernel_rfl

def dcells (ds : List Nat) : List Value := ds.map (fun z : Nat => Value.int .i64 (z : Int))

theorem dcells_length (ds : List Nat) : (dcells ds).length = ds.length := by simp [dcells]

/-- The slice value v holds the digits ds. -/
def Digs (W : World) (v : Value) (ds : List Nat) : Prop :=
  ∃ ao cap, v = .slice ao ds.length cap ∧ ds.length ≤ cap ∧ Small 10 ds ∧ ∀ j, j < ds.length → ∃ b off, ao = some ⟨b, off, none⟩ ∧ W.cell? ⟨b, off + j, none⟩ = some (.int .i64 ((nth ds j : Nat) : Int))

theorem Digs.below {W W' : World} {v : Value} {ds : List Nat} (h : Digs W v ds) (hb : Below W.heap.size W W') : Digs W' v ds := by
  obtain ⟨ao, cap, rfl, h1, h3, h4⟩ := h
  refine ⟨ao, cap, rfl, h1, h3, fun j hj => ?_⟩
  obtain ⟨b, off, e, hc⟩ := h4 j hj
  exact ⟨b, off, e, (hb.cell (p := ⟨b, off + j, none⟩) (block_lt_of_cell hc)).trans hc⟩

theorem Digs.nil (W : World) : Digs W (.slice none 0 0) [] := ⟨none, 0, rfl, Nat.le_refl _, Small.nil _, fun j hj => by simp at hj⟩

theorem Digs.small {W : World} {v : Value} {ds : List Nat} (h : Digs W v ds) : Small 10 ds := by
  obtain ⟨ao, cap, e, _, h, _⟩ := h; exact h

theorem Digs.len {W : World} {v : Value} {ds : List Nat} (h : Digs W v ds) : ∃ ao cap, v = .slice ao ds.length cap := by
  obtain ⟨ao, cap, e, _⟩ := h; exact ⟨ao, cap, e⟩

theorem Digs.cells {W : World} {ao : Option Addr} {n cap : Nat} {ds : List Nat} (h : Digs W (.slice ao n cap) ds) : ∀ j, j < ds.length → ∃ b off, ao = some ⟨b, off, none⟩ ∧ W.cell? ⟨b, off + j, none⟩ = some (.int .i64 ((nth ds j : Nat) : Int)) := by
  obtain ⟨ao', cap', e, _, _, h⟩ := h
  cases e
  exact h

/-- Digits that the call has gathered in memory of its own. -/
def Own (n₀ : Nat) (W : World) (v : Value) (ds : List Nat) : Prop := W.ownsRow n₀ 3 1 v ds.length (dcells ds)

theorem Own.nil (n₀ : Nat) (W : World) : Own n₀ W (.slice none 0 0) [] := World.ownsRow_nil _ _ _ _

theorem Own.digs {n₀ : Nat} {W : World} {v : Value} {ds : List Nat} (h : Own n₀ W v ds) (hs : Small 10 ds) : Digs W v ds := by
  rcases h.2 with ⟨rfl, h0⟩ | ⟨g, cap, cur, rfl, hg, hh, hn, hm, hc, ht⟩
  · have : ds = [] := List.eq_nil_of_length_eq_zero h0
    subst this
    exact Digs.nil W
  · refine ⟨some ⟨g, 0, none⟩, cap, rfl, hn, hs, fun j hj => ⟨g, 0, rfl, ?_⟩⟩
    have := World.ownsRow.cellAt (show W.ownsRow n₀ 3 1 (.slice (some ⟨g, 0, none⟩) ds.length cap) ds.length (dcells ds) from h) j (by omega)
    rw [Nat.zero_add, this, nth_eq hj]
    simp [dcells, hj]

theorem Own.keep {n₀ : Nat} {W W' : World} {v : Value} {ds : List Nat} (h : Own n₀ W v ds) (hb : Below W.heap.size W W') : Own n₀ W' v ds := ownsRow_keep h hb

/-- What an append of one digit leaves. -/
theorem Own.pushed {n₀ : Nat} {w wr w1 : World} {v v' : Value} {ds : List Nat} {o : Obj} {d : Nat} (h : Own n₀ wr v ds) (hB : Below w.heap.size w wr) (hn : w.heap.size ≤ n₀) (hn2 : n₀ ≤ wr.heap.size)
    (hown : w1.ownsRow n₀ 3 1 v' (ds.length + 1) (dcells ds ++ [.int .i64 (d : Int)])) (hg : (wr.alloc o).grownBy w1 v.ownBlock) :
    Own n₀ w1 v' (ds ++ [d]) ∧ Below w.heap.size w w1 ∧ n₀ ≤ w1.heap.size := by
  refine ⟨?_, ?_, ?_⟩
  · unfold Own
    have e1 : (ds ++ [d]).length = ds.length + 1 := by simp
    have e2 : dcells (ds ++ [d]) = dcells ds ++ [.int .i64 (d : Int)] := by simp [dcells]
    rw [e1, e2]
    exact hown
  · exact (hB.alloc hB.size o).grown hg (by simp; have := hB.size; omega) (fun j hj => by have := (h.lt j hj).1; omega)
  · have := hg.size
    simp at this
    omega

end Go.Proofs.YtkdhcpfmlelfcaaDoor

/- The reference's Trim: digits without noughts at their end, in memory of their own. -/
namespace Go.Proofs.YtkdhcpfmlelfcaaDoor
set_option linter.unusedVariables false
set_option linter.unusedSimpArgs false
open Go Go.RowKit Go.Shelf

theorem tl_drop {zs : List Nat} {k : Nat} (hk : k ≤ zs.length) (h : ∀ x ∈ zs.drop k, x = 0) (hz : k = 0 ∨ nth zs (k - 1) ≠ 0) : tl zs = k := by
  rcases Nat.eq_zero_or_pos k with rfl | hp
  · rw [List.drop_zero] at h
    exact (tl_zero_iff zs).2 h
  · have hz' : nth zs (k - 1) ≠ 0 := hz.resolve_left (by omega)
    have := tl_of_top zs (k - 1) (by omega) (by rw [← nth_eq (by omega)]; exact hz') (by rw [show k - 1 + 1 = k by omega]; exact h)
    omega

theorem drop_more {zs : List Nat} {k : Nat} (hk : k < zs.length) (h : ∀ x ∈ zs.drop (k + 1), x = 0) (hz : nth zs k = 0) : ∀ x ∈ zs.drop k, x = 0 := by
  rw [List.drop_eq_getElem_cons hk]
  intro x hx
  rcases List.mem_cons.1 hx with rfl | hx
  · rw [nth_eq hk] at hz; exact hz
  · exact h x hx

/-- A number of the reference's, as an argument and as an answer. -/
def RRes (W : World) (v : Value) (n : Nat) : Prop := ∃ ds, Digs W v ds ∧ Canon 10 ds ∧ val 10 ds = n
def RArg (W : World) (v : Value) (n : Nat) : Prop := ∃ ds, Digs W v ds ∧ Canon 10 ds ∧ val 10 ds = n ∧ ds.length ≤ 100000

theorem RRes.below {W W' : World} {v : Value} {n : Nat} (h : RRes W v n) (hb : Below W.heap.size W W') : RRes W' v n := by
  obtain ⟨xs, h1, h2⟩ := h
  exact ⟨xs, h1.below hb, h2⟩
theorem RArg.below {W W' : World} {v : Value} {n : Nat} (h : RArg W v n) (hb : Below W.heap.size W W') : RArg W' v n := by
  obtain ⟨xs, h1, h2⟩ := h
  exact ⟨xs, h1.below hb, h2⟩
theorem RArg.res {W : World} {v : Value} {n : Nat} (h : RArg W v n) : RRes W v n := by
  obtain ⟨xs, h1, h2, h3, _⟩ := h
  exact ⟨xs, h1, h2, h3⟩

theorem canon_len_of {B : Nat} (hB : 0 < B) {xs : List Nat} (hc : Canon B xs) {k : Nat} (h : val B xs < B ^ k) : xs.length ≤ k := by
  induction k generalizing xs with
  | zero =>
    rw [Nat.pow_zero] at h
    rw [hc.val_zero hB (by omega)]
    simp
  | succ k ih =>
    cases xs with
    | nil => simp
    | cons x r =>
      have : val B r < B ^ k := by
        rw [val_cons, Nat.pow_succ] at h
        have h2 : B * val B r < B * B ^ k := by rw [Nat.mul_comm B (B ^ k)]; omega
        exact Nat.lt_of_mul_lt_mul_left h2
      have := ih hc.tail this
      simp only [List.length_cons]
      omega

theorem RRes.arg {W : World} {v : Value} {n k : Nat} (h : RRes W v n) (hn : n < 10 ^ k) (hk : k ≤ 100000) : RArg W v n := by
  obtain ⟨xs, h1, h2, h3⟩ := h
  exact ⟨xs, h1, h2, h3, Nat.le_trans (canon_len_of ten_pos h2 (by rw [h3]; exact hn)) hk⟩

theorem RRes.nil (W : World) : RRes W (.slice none 0 0) 0 := ⟨[], Digs.nil W, canon_nil 10, rfl⟩

theorem Own.res {n₀ : Nat} {W : World} {v : Value} {ds : List Nat} (h : Own n₀ W v ds) (hc : Canon 10 ds) : RRes W v (val 10 ds) := ⟨ds, h.digs hc.1, hc, rfl⟩

theorem tl_snoc (ds : List Nat) (d : Nat) (h : d ≠ 0) : tl (ds ++ [d]) = (ds ++ [d]).length := by
  have := tl_of_top (ds ++ [d]) ds.length (by simp) (by simpa using h) (by simp)
  rw [this]
  simp

/-- A number that lies in memory made since the heap had so many blocks. -/
def RNew (n₀ : Nat) (W : World) (v : Value) (n : Nat) : Prop := ∃ ds, Own n₀ W v ds ∧ Canon 10 ds ∧ val 10 ds = n

theorem RNew.res {n₀ : Nat} {W : World} {v : Value} {n : Nat} (h : RNew n₀ W v n) : RRes W v n := by
  obtain ⟨ds, h1, h2, rfl⟩ := h
  exact h1.res h2

theorem RNew.mono {n₀ n₁ : Nat} {W : World} {v : Value} {n : Nat} (h : RNew n₀ W v n) (hn : n₁ ≤ n₀) : RNew n₁ W v n := by
  obtain ⟨ds, ⟨h0, h1⟩, h2⟩ := h
  refine ⟨ds, ⟨h0, ?_⟩, h2⟩
  rcases h1 with h1 | ⟨g, cap, cur, e, hg, h⟩
  · exact .inl h1
  · exact .inr ⟨g, cap, cur, e, by omega, h⟩

end Go.Proofs.YtkdhcpfmlelfcaaDoor

/- The reference's Small: the digits of a small number. -/
namespace Go.Proofs.YtkdhcpfmlelfcaaDoor
set_option linter.unusedVariables false
set_option linter.unusedSimpArgs false
open Go Go.RowKit Go.Shelf

theorem one_cell {k : IntKind} {x : Int} : ∀ u ∈ [Value.int k x], u.oneCell' = true := fun u hu => by
  rw [List.mem_singleton.1 hu]; rfl

theorem tmod10 (m : Nat) : Int.tmod (m : Int) 10 = ((m % 10 : Nat) : Int) := by
  rw [Int.tmod_eq_emod_of_nonneg (by omega)]; omega
theorem tdiv10 (m : Nat) : Int.tdiv (m : Int) 10 = ((m / 10 : Nat) : Int) := by
  rw [Int.tdiv_eq_ediv_of_nonneg (by omega)]; omega

theorem small_step {ds : List Nat} {m n : Nat} (hs : Small 10 ds) (hv : val 10 ds + 10 ^ ds.length * m = n) (hm : m ≠ 0) :
    Small 10 (ds ++ [m % 10]) ∧ val 10 (ds ++ [m % 10]) + 10 ^ (ds ++ [m % 10]).length * (m / 10) = n ∧ (m / 10 = 0 → tl (ds ++ [m % 10]) = (ds ++ [m % 10]).length) := by
  refine ⟨hs.append (fun x hx => by rw [List.mem_singleton.1 hx]; exact Nat.mod_lt _ (by decide)), ?_, fun h => tl_snoc _ _ (by omega)⟩
  rw [val_snoc, ← hv, List.length_append, List.length_singleton, Nat.pow_succ, Nat.add_assoc, Nat.mul_assoc, ← Nat.mul_add, Nat.mod_add_div]

theorem small_len {L m n : Nat} (h : 10 ^ L * m ≤ n) (hm : m ≠ 0) (hn : n < 18446744073709551616) : L ≤ 20 := by
  apply Decidable.byContradiction
  intro hl
  have h1 : 10 ^ 20 ≤ 10 ^ L := Nat.pow_le_pow_right (by decide) (by omega)
  have h2 : 10 ^ L * 1 ≤ 10 ^ L * m := Nat.mul_le_mul_left _ (by omega)
  have h3 : (10 : Nat) ^ 20 = 100000000000000000000 := by decide
  omega

end Go.Proofs.YtkdhcpfmlelfcaaDoor
