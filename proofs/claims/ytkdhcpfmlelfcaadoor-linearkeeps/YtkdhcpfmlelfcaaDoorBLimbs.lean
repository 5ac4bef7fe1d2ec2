/- The reference's Number: a number of few digits. The reference's Words once more, of limbs whose room isn't known. The reference's Limbs: a number's limbs. -/
import Derived.Test.YtkdhcpfmlelfcaaDoorRDivMod
import Derived.Test.YtkdhcpfmlelfcaaDoorWords
import Derived.Test.YtkdhcpfmlelfcaaDoorLaw0

/- The reference's Number: a number of few digits. -/
namespace Go.Proofs.YtkdhcpfmlelfcaaDoor
set_option linter.unusedVariables false
set_option linter.unusedSimpArgs false
open Go Go.RowKit Go.Shelf

theorem val_drop_le (ds : List Nat) (k : Nat) (hk : k ≤ ds.length) : val 10 (ds.drop k) ≤ val 10 ds := by
  rw [val_split 10 ds k hk]
  have : 1 * val 10 (ds.drop k) ≤ 10 ^ k * val 10 (ds.drop k) := Nat.mul_le_mul_right _ (Nat.pow_pos (by decide))
  omega

end Go.Proofs.YtkdhcpfmlelfcaaDoor

/- The reference's Words once more, of limbs whose room isn't known. -/
namespace Go.Proofs.YtkdhcpfmlelfcaaDoor
set_option linter.unusedVariables false
set_option linter.unusedSimpArgs false
open Go Go.RowKit Go.Shelf

/-- The slice value sv holds the limbs zs, whatever its room. -/
def LimbsW (W : World) (sv : Value) (zs : List Nat) : Prop :=
  ∃ ao cap, sv = .slice ao zs.length cap ∧ zs.length ≤ cap ∧ zs.length ≤ 70368744177664 ∧ Small R zs ∧ ∀ j, j < zs.length → ∃ b off, ao = some ⟨b, off, none⟩ ∧ W.cell? ⟨b, off + j, none⟩ = some (.int .u32 ((nth zs j : Nat) : Int))

theorem Limbs.weak {W : World} {v : Value} {zs : List Nat} (h : Limbs W v zs) : LimbsW W v zs := by
  obtain ⟨ao, cap, e, h1, h2, h3⟩ := h
  exact ⟨ao, cap, e, h1, h2, h3⟩

theorem LimbsW.strong {W : World} {v : Value} {zs : List Nat} (h : LimbsW W v zs) : Limbs W v zs := by
  obtain ⟨ao, cap, e, h1, h2, h3⟩ := h
  exact ⟨ao, cap, e, h1, h2, h3⟩

theorem LimbsW.below {W W' : World} {sv : Value} {zs : List Nat} (h : LimbsW W sv zs) (hb : Below W.heap.size W W') : LimbsW W' sv zs := by
  obtain ⟨ao, cap, rfl, h1, h2, h3, h4⟩ := h
  refine ⟨ao, cap, rfl, h1, h2, h3, fun j hj => ?_⟩
  obtain ⟨b, off, e, hc⟩ := h4 j hj
  exact ⟨b, off, e, (hb.cell (p := ⟨b, off + j, none⟩) (block_lt_of_cell hc)).trans hc⟩

set_option maxRecDepth 100000 in
set_option maxHeartbeats 2000000 in
theorem words_weak (w : World) (sv tv : Value) (xs ys : List Nat) (hx : LimbsW w sv xs) (hy : LimbsW w tv ys) :
    Calls Tryd.prog 11 #[sv, tv] w fun e w' => e = .returned (.bool (decide (xs = ys))) ∧ Below w.heap.size w w' := by
  obtain ⟨ao, cap, rfl, h1, h2, h3, h4⟩ := hx
  obtain ⟨bo, dap, rfl, k1, k2, k3, k4⟩ := hy
  by_cases hl : xs.length = ys.length
  · have hl' : ((xs.length : Int) != (ys.length : Int)) = false := by simp [hl]
    have Hl := hide hl
    clear hl
    go_enter Tryd.func11, Tryd.ntmps11
    go_wp2
    go_loopw [5] (fun i wr => ∃ k : Nat, k ≤ xs.length ∧ i = .int .i64 k ∧ (∀ j, j < k → nth xs j = nth ys j) ∧ Below w.heap.size w wr) (fun i _ => xs.length - (intOf i).toNat)
    case atStart => exact ⟨0, Nat.zero_le _, rfl, fun j hj => by omega, Below.refl _ _⟩
    case round =>
      obtain ⟨k, hk, rfl, hs, hB⟩ := hrel
      by_cases hlt : k < xs.length
      · have hlt2 : k < ys.length := by have := Hl.out; omega
        obtain ⟨b, off, rfl, hc⟩ := h4 k hlt
        obtain ⟨b', off', rfl, hc'⟩ := k4 k hlt2
        have c1 := (hB.cell (p := ⟨b, off + k, none⟩) (block_lt_of_cell hc)).trans hc
        have c2 := (hB.cell (p := ⟨b', off' + k, none⟩) (block_lt_of_cell hc')).trans hc'
        have Hs := hide hs
        have H4 := hide h4
        have K4 := hide k4
        clear hc hc' hs h4 k4
        by_cases hv : nth xs k = nth ys k
        · have hv' : (((nth xs k : Nat) : Int) != ((nth ys k : Nat) : Int)) = false := by simp [hv]
          have Hv := hide hv
          clear hv
          go_wp2
          go_quiet (fail)
          go_wp2
          go_roundw
          case rel => exact ⟨k + 1, by omega, by go_num, fun j hj => by rcases Nat.lt_succ_iff_lt_or_eq.1 hj with h | h; exact Hs.out j h; rw [h]; exact Hv.out, below_drewN hB _⟩
          case measure => simp [intOf]; omega
        · have hv' : (((nth xs k : Nat) : Int) != ((nth ys k : Nat) : Int)) = true := by simp; omega
          have Hv := hide hv
          clear hv
          go_wp2
          go_quiet (fail)
          go_wp2
          go_ret
          refine ⟨?_, below_drewN hB _⟩
          rw [decide_eq_false (ne_of_nth Hv.out)]
          rfl
      · go_wp2
        go_ret
        refine ⟨?_, hB⟩
        have : xs = ys := same_of_nth Hl.out (fun i hi => hs i (by omega))
        rw [decide_eq_true this]
        rfl
  · have hl' : ((xs.length : Int) != (ys.length : Int)) = true := by simp; omega
    have hd : decide (xs = ys) = false := by simp; intro e; exact hl (by rw [e])
    rw [hd]
    clear hd hl h4 k4
    go_enter Tryd.func11, Tryd.ntmps11
    go_wp2
    go_ret
    exact ⟨rfl, Below.refl _ _⟩

end Go.Proofs.YtkdhcpfmlelfcaaDoor

/- The reference's Limbs: a number's limbs. -/
namespace Go.Proofs.YtkdhcpfmlelfcaaDoor
set_option linter.unusedVariables false
set_option linter.unusedSimpArgs false
open Go Go.RowKit Go.Shelf

/-- Limbs that the call has gathered in memory of its own. -/
def OwnU (n₀ : Nat) (W : World) (v : Value) (gs : List Nat) : Prop := W.ownsRow n₀ 53 1 v gs.length (u32s gs)

def sliceLen : Value → Nat
  | .slice _ n _ => n
  | _ => 0

theorem OwnU.len {n₀ : Nat} {W : World} {v : Value} {gs : List Nat} (h : OwnU n₀ W v gs) : sliceLen v = gs.length := by
  obtain ⟨a, c, rfl⟩ := ownsRow_slice h
  rfl

theorem OwnU.limbs {n₀ : Nat} {W : World} {v : Value} {gs : List Nat} (h : OwnU n₀ W v gs) (hs : Small R gs) (hl : gs.length ≤ 70368744177664) : LimbsW W v gs := by
  rcases h.2 with ⟨rfl, h0⟩ | ⟨g, cap, cur, rfl, hg, hh, hn, hm, hc, ht⟩
  · have : gs = [] := List.eq_nil_of_length_eq_zero h0
    subst this
    exact (Limbs.nil W).weak
  · refine ⟨some ⟨g, 0, none⟩, cap, rfl, hn, hl, hs, fun j hj => ⟨g, 0, rfl, ?_⟩⟩
    have := World.ownsRow.cellAt (show W.ownsRow n₀ 53 1 (.slice (some ⟨g, 0, none⟩) gs.length cap) gs.length (u32s gs) from h) j (by omega)
    rw [Nat.zero_add, this, nth_eq hj]
    simp [u32s, hj]

/-- A number as the reference's limbs. -/
def ResW (W : World) (v : Value) (n : Nat) : Prop := ∃ xs, LimbsW W v xs ∧ Canon R xs ∧ val R xs = n

theorem ResW.below {W W' : World} {v : Value} {n : Nat} (h : ResW W v n) (hb : Below W.heap.size W W') : ResW W' v n := by
  obtain ⟨xs, h1, h2⟩ := h
  exact ⟨xs, h1.below hb, h2⟩
theorem Res.weak {W : World} {v : Value} {n : Nat} (h : Res W v n) : ResW W v n := by
  obtain ⟨xs, h1, h2⟩ := h
  exact ⟨xs, h1.weak, h2⟩

theorem words_resW {w : World} {sv tv : Value} {m n : Nat} (hx : ResW w sv m) (hy : ResW w tv n) (hmn : m = n) :
    Calls Tryd.prog 11 #[sv, tv] w fun e w' => e = .returned (.bool true) ∧ Below w.heap.size w w' := by
  subst hmn
  obtain ⟨xs, h1, h2, h3⟩ := hx
  obtain ⟨ys, k1, k2, k3⟩ := hy
  have : xs = ys := h2.unique R_pos k2 (by rw [h3, k3])
  subst this
  refine (words_weak w sv tv xs xs h1 k1).mono ?_
  rintro e w' ⟨rfl, h⟩
  exact ⟨by simp, h⟩

theorem limbs_step {gs : List Nat} {t m : Nat} (hs : Small R gs) (hv : val R gs + R ^ gs.length * t = m) (ht : t ≠ 0) :
    Small R (gs ++ [t % R]) ∧ val R (gs ++ [t % R]) + R ^ (gs ++ [t % R]).length * (t / R) = m ∧ (t / R = 0 → tl (gs ++ [t % R]) = (gs ++ [t % R]).length) := by
  refine ⟨hs.append (fun x hx => by rw [List.mem_singleton.1 hx]; exact Nat.mod_lt _ R_pos), ?_, fun h => tl_snoc _ _ ?_⟩
  · rw [val_snoc, ← hv, List.length_append, List.length_singleton, Nat.pow_succ, Nat.add_assoc, Nat.mul_assoc, ← Nat.mul_add, Nat.mod_add_div]
  · intro h0
    have := Nat.mod_add_div t R
    rw [h0, h] at this
    exact ht (by rw [← this]; simp)

theorem limbs_len {gs : List Nat} {t m k : Nat} (hv : val R gs + R ^ gs.length * t = m) (ht : t ≠ 0) (hm : m < 10 ^ k) : gs.length < k := by
  apply Decidable.byContradiction
  intro h
  have h1 : 10 ^ k ≤ 10 ^ gs.length := Nat.pow_le_pow_right (by decide) (by omega)
  have h2 : 10 ^ gs.length ≤ R ^ gs.length := Nat.pow_le_pow_left (by rw [R_eq]; decide) _
  have h3 : R ^ gs.length * 1 ≤ R ^ gs.length * t := Nat.mul_le_mul_left _ (by omega)
  omega

/-- What an append of one limb leaves. -/
theorem OwnU.pushed {n₀ : Nat} {w wr w1 : World} {v v' : Value} {ds : List Nat} {o : Obj} {d : Nat} (h : OwnU n₀ wr v ds) (hB : Below n₀ w wr) (hn2 : n₀ ≤ wr.heap.size)
    (hown : w1.ownsRow n₀ 53 1 v' (ds.length + 1) (u32s ds ++ [.int .u32 (d : Int)])) (hg : (wr.alloc o).grownBy w1 v.ownBlock) :
    OwnU n₀ w1 v' (ds ++ [d]) ∧ Below n₀ w w1 := by
  refine ⟨?_, ?_⟩
  · unfold OwnU
    have e1 : (ds ++ [d]).length = ds.length + 1 := by simp
    have e2 : u32s (ds ++ [d]) = u32s ds ++ [.int .u32 (d : Int)] := by simp [u32s]
    rw [e1, e2]
    exact hown
  · exact (hB.alloc hn2 o).grown hg (by simp; omega) (fun j hj => (h.lt j hj).1)

theorem RNew.grown {n₁ : Nat} {W W1 : World} {v u : Value} {n : Nat} {o : Obj} (h : RNew n₁ W v n) (hu : ∀ k, u.ownBlock = some k → k < n₁) (hg : (W.alloc o).grownBy W1 u.ownBlock) : RNew n₁ W1 v n := by
  obtain ⟨ds, h1, h2⟩ := h
  refine ⟨ds, World.ownsRow.kept (World.ownsRow.alloc h1 o) hg ?_, h2⟩
  cases hv : v.ownBlock with
  | none => exact .inl rfl
  | some k =>
    refine .inr fun e => ?_
    have := (h1.lt k hv).1
    have := hu k e.symm
    omega

end Go.Proofs.YtkdhcpfmlelfcaaDoor
